/- what the program itself must be for a card, said once: its words are read off its bytes, not decoded sign by sign -/
import Derived.Test.YtochgmbeomfkpaaRows
import Derived.ProofKit
namespace Go.Proofs.Ytochgmbeomfkpaa

theorem and_mk {a b : Bool} (ha : a = true) (hb : b = true) : (a && b) = true := by rw [ha, hb]; rfl

theorem ws_word : ∀ (l : List Char), (∀ c ∈ l, c ≠ Char.ofNat 32) → ∀ r, wordsSigns (l ++ Char.ofNat 32 :: r) = l :: wordsSigns r
  | [], _, r => rfl
  | c :: l, h, r => by
    have ih := ws_word l (fun x hx => h x (by simp [hx])) r
    have hc : c ≠ Char.ofNat 32 := h c (by simp)
    rw [List.cons_append, wordsSigns]
    · rw [ih]
    · intro e; exact hc e

noncomputable def sgn (l : List Nat) : List Char := l.map Char.ofNat
theorem sgn_free {l : List Nat} (h : l.all (fun n => n != 32 && decide (n < 128)) = true) : ∀ c ∈ sgn l, c ≠ Char.ofNat 32 := by
  intro c hc e
  obtain ⟨n, hn, rfl⟩ := List.mem_map.1 hc
  have := List.all_eq_true.1 h n hn
  simp only [Bool.and_eq_true, bne_iff_ne, ne_eq, decide_eq_true_eq] at this
  have h1 : (Char.ofNat n).toNat = n := by
    unfold Char.ofNat
    rw [dif_pos (by unfold Nat.isValidChar; omega)]
    rfl
  have h2 : (Char.ofNat 32).toNat = 32 := by decide
  rw [e, h2] at h1
  exact this.1 h1.symm

/-- The words of the program's first line: a sum, and 'cut'. -/
noncomputable def initRest : List Char := sgn [97, 116, 32, 108, 111, 111, 112, 46, 101, 120, 97, 109, 112, 108, 101, 47, 98, 117, 105, 108, 100, 114, 111, 97, 100, 115, 47, 108, 97, 119, 115, 46, 70, 110, 69, 120, 97, 99, 116, 79, 114, 100, 101, 114, 84, 111, 112, 111, 32, 108, 111, 111, 112, 46, 101, 120, 97, 109, 112, 108, 101, 47, 98, 117, 105, 108, 100, 114, 111, 97, 100, 115, 47, 108, 97, 119, 115, 46, 70, 110, 79, 114, 100, 101, 114, 84, 111, 112, 111, 32, 108, 111, 111, 112, 46, 101, 120, 97, 109, 112, 108, 101, 47, 98, 117, 105, 108, 100, 114, 111, 97, 100, 115, 47, 108, 97, 119, 115, 46, 70, 110, 79, 114, 100, 101, 114, 83, 117, 115, 112, 101, 110, 100]
theorem initOrder_eq : Try.prog.initOrder = String.ofList (sgn [104, 97, 114, 110, 101, 115, 115] ++ Char.ofNat 32 :: (sgn [57, 48, 97, 49, 50, 102, 98, 48, 53, 51, 48, 53, 97, 49, 51, 100, 56, 99, 101, 50, 57, 101, 57, 49, 49, 101, 99, 57, 52, 56, 98, 49, 55, 53, 49, 56, 100, 49, 100, 101, 98, 98, 51, 99, 53, 52, 100, 97, 54, 97, 52, 102, 53, 97, 102, 54, 49, 57, 48, 48, 51, 57, 54, 101] ++ Char.ofNat 32 :: (sgn [99, 117, 116] ++ Char.ofNat 32 :: initRest))) := by kernel_rfl
theorem initWords : wordsSigns Try.prog.initOrder.toList = sgn [104, 97, 114, 110, 101, 115, 115] :: sgn [57, 48, 97, 49, 50, 102, 98, 48, 53, 51, 48, 53, 97, 49, 51, 100, 56, 99, 101, 50, 57, 101, 57, 49, 49, 101, 99, 57, 52, 56, 98, 49, 55, 53, 49, 56, 100, 49, 100, 101, 98, 98, 51, 99, 53, 52, 100, 97, 54, 97, 52, 102, 53, 97, 102, 54, 49, 57, 48, 48, 51, 57, 54, 101] :: sgn [99, 117, 116] :: wordsSigns initRest := by
  rw [initOrder_eq, String.toList_ofList, ws_word _ (sgn_free (by decide)), ws_word _ (sgn_free (by decide)), ws_word _ (sgn_free (by decide))]
theorem str_of {l : List Char} {o t : String} (ht : t = String.ofList l) (h : o ≠ t) : (l == o.toList) = false := by
  rw [beq_eq_false_iff_ne]
  intro e
  exact h (by rw [ht, e, String.ofList_toList])
theorem cut_eq : "cut" = String.ofList (sgn [99, 117, 116]) := by kernel_rfl
theorem harness_eq : "harness" = String.ofList (sgn [104, 97, 114, 110, 101, 115, 115]) := by kernel_rfl
theorem cut_list : "cut".toList = sgn [99, 117, 116] := by rw [cut_eq, String.toList_ofList]
theorem harness_list : "harness".toList = sgn [104, 97, 114, 110, 101, 115, 115] := by rw [harness_eq, String.toList_ofList]
theorem prg_enter' (su c : List Char) (h : isSumSigns su = true) (ws : List (List Char)) : behindMainWord (sgn [104, 97, 114, 110, 101, 115, 115] :: su :: c :: ws) = c :: ws := by
  unfold behindMainWord
  simp only [harness_list, h, beq_self_eq_true, Bool.true_or, Bool.and_self, if_true]
theorem prgSum : isSumSigns (sgn [57, 48, 97, 49, 50, 102, 98, 48, 53, 51, 48, 53, 97, 49, 51, 100, 56, 99, 101, 50, 57, 101, 57, 49, 49, 101, 99, 57, 52, 56, 98, 49, 55, 53, 49, 56, 100, 49, 100, 101, 98, 98, 51, 99, 53, 52, 100, 97, 54, 97, 52, 102, 53, 97, 102, 54, 49, 57, 48, 48, 51, 57, 54, 101]) = true := by kernel_rfl
theorem prg_enter (ws : List (List Char)) : behindMainWord (sgn [104, 97, 114, 110, 101, 115, 115] :: sgn [57, 48, 97, 49, 50, 102, 98, 48, 53, 51, 48, 53, 97, 49, 51, 100, 56, 99, 101, 50, 57, 101, 57, 49, 49, 101, 99, 57, 52, 56, 98, 49, 55, 53, 49, 56, 100, 49, 100, 101, 98, 98, 51, 99, 53, 52, 100, 97, 54, 97, 52, 102, 53, 97, 102, 54, 49, 57, 48, 48, 51, 57, 54, 101] :: sgn [99, 117, 116] :: ws) = sgn [99, 117, 116] :: ws := prg_enter' _ _ prgSum ws
theorem strip_none (w : List Char) : ∀ os : List String, (∀ o ∈ os, (w == o.toList) = false) → ∀ ws, stripLifts os (w :: ws) = ([], w :: ws)
  | [], _, _ => rfl
  | o :: os, h, ws => by
    rw [stripLifts, h o (by simp), if_neg (by decide)]
    exact strip_none w os (fun x hx => h x (by simp [hx])) ws
theorem prg_strip (ws : List (List Char)) : stripLifts liftWords (sgn [99, 117, 116] :: ws) = ([], sgn [99, 117, 116] :: ws) :=
  strip_none _ _ (fun o ho => str_of cut_eq (by
    simp only [liftWords, List.mem_cons, List.not_mem_nil, or_false] at ho
    rintro rfl
    simp at ho)) ws

theorem prgLaid : laidOutB Try.prog = true := by kernel_rfl
theorem prgMaps : mapsRowed Try.prog = true := by kernel_rfl
theorem prgStops : Try.prog.stops = [] := by kernel_rfl
theorem prgKnobs : Try.prog.stopKnobs = [] := by kernel_rfl
theorem prgHeard : Try.prog.stopsHeard = true := by kernel_rfl
theorem prgLays : Try.prog.laysLater = false := by kernel_rfl
theorem prgBears : Try.prog.bearsReflect = false := by kernel_rfl
theorem prgDoor : Try.prog.doorFits [] = true := by kernel_rfl
theorem enter_of {P : Program} {c : List Char} {rest : List (List Char)} (h : behindMainWord (wordsSigns P.initOrder.toList) = c :: rest) (h1 : (c == "gc".toList) = false) (h2 : (c == "spec".toList) = false) (h3 : (c == "carried".toList) = false)
    (h4 : stripLifts liftWords (c :: rest) = ([], c :: rest)) (h5 : c = "cut".toList) (h6 : P.laysLater = false) (h7 : P.bearsReflect = false) (h8 : P.doorFits [] = true) : P.mayEnter = true ∧ P.headLifts = [] ∧ P.liftsFinal = false ∧ P.make = some .cut := by
  have e4 : P.headLifts = [] := by unfold Program.headLifts; rw [h, h4]; simp [h5]
  have h3' : (some c == some "carried".toList) = false := by
    rw [beq_eq_false_iff_ne] at h3 ⊢
    intro e
    injection e with e
    exact h3 e
  refine ⟨?_, e4, ?_, ?_⟩
  · unfold Program.mayEnter
    rw [h]
    simp only [h1, h2, h3, h4, h6, h7, h8]
    simp [h5]
  · unfold Program.liftsFinal
    rw [h, e4]
    simp only [List.head?_cons, h3', Bool.false_and, Bool.false_or]
    rfl
  · unfold Program.make
    rw [h]
    simp only [h1, h2]
    simp [h5]
theorem prgAll : Try.prog.mayEnter = true ∧ Try.prog.headLifts = [] ∧ Try.prog.liftsFinal = false ∧ Try.prog.make = some .cut :=
  enter_of (by rw [initWords, prg_enter]) (str_of cut_eq (by decide)) (str_of cut_eq (by decide)) (str_of cut_eq (by decide)) (prg_strip _) cut_list.symm prgLays prgBears prgDoor
theorem prgEnter : Try.prog.mayEnter = true := prgAll.1
theorem prgFinal : Try.prog.liftsFinal = false := prgAll.2.2.1
theorem prgMake : Try.prog.make = some .cut := prgAll.2.2.2

/-- What is asked of the law's own function and row. -/
noncomputable def lawFacts (f : FuncId) (fn : Func) (s : ChangeSpec) (c : OpenClaim) : Bool :=
  c.wf (OpenSpec.ofChange s) &&
  fn.params.all (Try.prog.readableRec ·) && namedTie Try.prog c.named s.vars &&
  (c.stops == []) && (c.knobs == []) &&
  (c.inPlace == Try.prog.inPlace f) && (c.unfollowed == Try.prog.unfollowed f) && (c.recurses == Try.prog.recurses f) && (c.named == Try.prog.varsNamed f) &&
  (c.maps == (fn.params.toList ++ s.plain.varTypes Try.prog).any (Try.prog.mapsRec ·)) && (c.ifaces == (fn.params.toList ++ s.plain.varTypes Try.prog).any (Try.prog.ifacesRec ·)) && (c.mapsOut == Try.prog.mapsAmong fn.resultTypes.toList) &&
  (c.loops == (fn.params.toList ++ s.plain.varTypes Try.prog).any (Try.prog.loopsFrom ·)) && (c.wideKeys == (fn.params.toList ++ s.plain.varTypes Try.prog ++ fn.resultTypes.toList).any (Try.prog.wideKeysFrom ·)) &&
  s.vars.all (Try.prog.varReadable ·) && fn.resultTypes.all (fun t => Try.prog.readableRec t && decide (t < Try.prog.types.size)) && (c.ifacesOut == fn.resultTypes.toList.any (Try.prog.ifacesRec ·)) && (c.loopsOut == fn.resultTypes.toList.any (Try.prog.loopsFrom ·)) && (c.plainKeys == Try.prog.plainKeys) && c.shortTexts.isNone && (c.lifted == false) && (some Make.cut == some c.make) && (c.kinds == (if c.domain.isEmpty then [] else fn.params.toList.map fun t => match Try.prog.underlying t with | some (.int k) => some k | _ => none)) && (c.pinned == c.pinnedBy) &&
  (c.veiled == (fn.params.toList ++ s.plain.varTypes Try.prog ++ fn.resultTypes.toList).any (Try.prog.veiledRec ·)) && c.veiledFits Try.prog fn.params.toList (fn.params.toList ++ s.plain.varTypes Try.prog ++ fn.resultTypes.toList)

set_option maxRecDepth 100000 in
theorem joined_of {f : FuncId} {fn : Func} {s : ChangeSpec} {c : OpenClaim} (h : lawFacts f fn s c = true) : joinedFacts Try.prog f fn s c = true := by
  unfold lawFacts at h
  unfold joinedFacts
  rw [prgLaid, prgMaps, prgStops, prgKnobs, prgHeard, prgEnter, prgFinal, prgMake]
  simp only [Bool.and_eq_true] at h ⊢
  obtain ⟨⟨⟨⟨⟨⟨⟨⟨⟨⟨⟨⟨⟨⟨⟨⟨⟨⟨⟨⟨⟨⟨⟨⟨⟨h0, h1⟩, h2⟩, h3⟩, h4⟩, h5⟩, h6⟩, h7⟩, h8⟩, h9⟩, h10⟩, h11⟩, h12⟩, h13⟩, h14⟩, h15⟩, h16⟩, h17⟩, h18⟩, h19⟩, h20⟩, h21⟩, h22⟩, h23⟩, h24⟩, h25⟩ := h
  refine ⟨⟨⟨⟨⟨⟨⟨⟨⟨⟨⟨⟨⟨⟨⟨⟨⟨⟨⟨⟨⟨⟨⟨⟨⟨⟨⟨⟨⟨⟨⟨h0, trivial⟩, trivial⟩, h1⟩, h2⟩, h3⟩, rfl⟩, h4⟩, rfl⟩, h5⟩, h6⟩, h7⟩, h8⟩, h9⟩, h10⟩, h11⟩, h12⟩, h13⟩, h14⟩, h15⟩, h16⟩, h17⟩, h18⟩, h19⟩, trivial⟩, trivial⟩, h20⟩, h21⟩, h22⟩, h23⟩, h24⟩, h25⟩
end Go.Proofs.Ytochgmbeomfkpaa
