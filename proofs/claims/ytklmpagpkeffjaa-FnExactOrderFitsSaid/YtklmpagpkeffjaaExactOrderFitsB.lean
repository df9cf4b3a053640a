/- several texts in one (made by bundle.py): Open, RowKit, OpenInts, Bnds, FitP, FitI, FitS, LawFits, OpenSh, ExactOrderFits -/
import Derived.Test.YtklmpagpkeffjaaRows
import Derived.Test.YtklmpagpkeffjaaTree
import Derived.ProofKit
import Derived.Lib.SmallJoins
import Derived.Deep.Slices
import Derived.Test.YtklmpagpkeffjaaVals
import Derived.Test.YtklmpagpkeffjaaAllS
import Derived.Test.YtklmpagpkeffjaaOrdP
import Derived.Deep.RegionWith
import Derived.BigQuiet
import Derived.Test.YtklmpagpkeffjaaFromS
import Derived.WalkSpells
import Derived.Test.YtklmpagpkeffjaaSheet
import Derived.Deep.Grids
/- A task that came in as an argument: its reading opened to a tree -/
namespace Go.Proofs.Ytklmpagpkeffjaa
open Go.ChangeShapes Go.WideShapes Go.ChangeAt Go.RowKit Go.Joins

theorem i64ok_of {n : Int} (h : (Lit.int .i64 n).wf = true) : i64ok n := by
  have := WalkArith.wf_i64 (n := n)
  unfold i64ok
  simp [Lit.wf] at h
  exact ⟨h.1, by omega⟩

theorem AtL.of_each {w : World} {S : Nat → Prop} {b o : Nat} : ∀ n, (∀ i, i < n → ∃ t, AtC w S t b (o + 3 * i)) → ∃ ps : List T, ps.length = n ∧ AtL w S ps b o
  | 0, _ => ⟨[], rfl, by simp [AtL]⟩
  | n + 1, h => by
    obtain ⟨ps, hl, hat⟩ := AtL.of_each n (fun i hi => h i (by omega))
    obtain ⟨t, ht⟩ := h n (by omega)
    exact ⟨ps ++ [t], by simp [hl], AtL.snoc hat (by rw [hl]; exact ht)⟩

section
variable {H : Type} {enc : TypeId × Value → H} {P : Program} {w : World} {base : Nat} {spare : Nat → Bool} {held : Bool} {tS tE tI : TypeId} {f0 f1 f2 : Field}

theorem open_tasks (hI : P.underlying tI = some (.int .i64)) (hcI : P.cellsOf tI = 1) (hS : P.underlying tS = some (.slice tE)) (hcS : P.cellsOf tS = 1) (hE : P.underlying tE = some (.struct #[f0, f1, f2])) (hC : P.cellsOf tE = 3)
    (h0 : f0.type = tI ∧ f0.offset = 0) (h1 : f1.type = tI ∧ f1.offset = 1) (h2 : f2.type = tS ∧ f2.offset = 2) :
    ∀ (fuel : Nat) (v : Value) (x : DataW H × List MemPlace), DataW.trod enc P w base spare held fuel tS [v] = some x → ∃ ps a c, v = .slice a (List.length ps) c ∧ AtS w (fun _ => True) ps a c := by
  intro fuel
  induction fuel using Nat.strongRecOn with
  | _ fuel ih =>
  intro v x h
  rcases DataW.trod_slice hS h with ⟨hv, _⟩ | ⟨a, len, cap, elems, rest, n, hf, hv, _, _, hl, hm, hlen, hel, _, _⟩
  · simp only [List.cons.injEq, and_true] at hv
    exact ⟨[], none, 0, by simpa using hv, by simp [AtS]⟩
  simp only [List.cons.injEq, and_true] at hv
  subst hv
  have hm' : cap ≤ 9223372036854775807 := hm
  by_cases hz : len = 0
  · subst hz
    exact ⟨[], some a, cap, rfl, by simp, hm', .inl rfl⟩
  have each : ∀ i, i < len → ∃ k m ps a' c', i64ok k ∧ i64ok m ∧ w.cell? (a.add (i * 3)) = some (.int .i64 k) ∧ w.cell? (a.add (i * 3 + 1)) = some (.int .i64 m) ∧ w.cell? (a.add (i * 3 + 2)) = some (.slice a' (List.length ps) c') ∧ AtS w (fun _ => True) ps a' c' := by
    intro i hi
    have he := hel i hi
    rw [hC] at he
    have hs : elems[i]? = some (elems[i]'(by omega)) := List.getElem?_eq_getElem (by omega)
    rw [hs, Option.bind_eq_some_iff] at he
    obtain ⟨cs, hcs, htr⟩ := he
    obtain ⟨_, hcl, hat⟩ := World.cells?_some hcs
    obtain ⟨c0, c1, c2, rfl⟩ : ∃ c0 c1 c2, cs = [c0, c1, c2] := by
      match cs, hcl with
      | [c0, c1, c2], _ => exact ⟨c0, c1, c2, rfl⟩
    obtain ⟨ys, n', hn', _, _, hyl, hfd⟩ := DataW.trod_struct hE htr
    have y0 := hfd 0 f0 rfl
    have y1 := hfd 1 f1 rfl
    have y2 := hfd 2 f2 rfl
    rw [h0.1, h0.2, hcI, List.getElem?_eq_getElem (by simp at hyl; omega)] at y0
    rw [h1.1, h1.2, hcI, List.getElem?_eq_getElem (by simp at hyl; omega)] at y1
    rw [h2.1, h2.2, hcS, List.getElem?_eq_getElem (by simp at hyl; omega)] at y2
    obtain ⟨k, e0, _, wk⟩ := DataW.trod_int hI y0
    obtain ⟨m, e1, _, wm⟩ := DataW.trod_int hI y1
    obtain ⟨ps, a', c', e2, hps⟩ := ih n' (by omega) c2 _ y2
    simp at e0 e1
    subst e0 e1 e2
    have g0 := hat 0 (by omega)
    have g1 := hat 1 (by omega)
    have g2 := hat 2 (by omega)
    rw [Go.Deep.add_add] at g0 g1 g2
    exact ⟨k, m, ps, a', c', i64ok_of wk, i64ok_of wm, g0, g1, g2, hps⟩
  have hsp : a.spot = none := by
    obtain ⟨_, _, _, _, _, _, _, g0, _⟩ := each 0 (by omega)
    obtain ⟨ab, ao, asp⟩ := a
    cases asp with
    | none => rfl
    | some y =>
      exfalso
      simp [Addr.add, World.cell?] at g0
      split at g0 <;> simp at g0
  obtain ⟨ab, ao, asp⟩ := a
  simp only at hsp
  subst hsp
  obtain ⟨ps, hpl, hat⟩ := AtL.of_each (w := w) (S := fun _ => True) (b := ab) (o := ao) len (fun i hi => by
    obtain ⟨k, m, ps, a', c', ok1, ok2, g0, g1, g2, hps⟩ := each i hi
    have ea : ∀ j, Addr.add ⟨ab, ao, none⟩ j = ⟨ab, ao + j, none⟩ := by intro j; unfold Addr.add; split <;> simp_all
    rw [ea] at g0 g1 g2
    refine ⟨.mk k m ps, AtC.mk ok1 ok2 ?_ ?_ ?_ hps⟩
    · rw [show ao + 3 * i = ao + i * 3 by omega]; exact g0
    · rw [show ao + 3 * i + 1 = ao + (i * 3 + 1) by omega]; exact g1
    · rw [show ao + 3 * i + 2 = ao + (i * 3 + 2) by omega]; exact g2)
  exact ⟨ps, _, cap, by rw [hpl], by rw [hpl]; exact hl, hm', .inr ⟨ab, ao, rfl, trivial, hat⟩⟩
end

end Go.Proofs.Ytklmpagpkeffjaa

/- The road from a law's walk to its row: one lemma for every law of this seat. -/
namespace Go.Proofs.Ytklmpagpkeffjaa
open Go.ChangeShapes Go.WideShapes Go.ChangeAt Go.RowKit

theorem own : ownKnob Try.prog.godebug = none := by kernel_rfl
theorem laidOut : laidOutB Try.prog = true := by kernel_rfl

theorem trodAll_stays {H : Type} {enc : TypeId × Value → H} {P : Program} (hl : laidOutB P = true) {W W' : World} {sp' : Nat → Bool} : ∀ (ts : List TypeId) (vs : List Value) (ds : List (DataW H)) (ps : List MemPlace),
    (∀ t ∈ ts, P.readableRec t = true ∧ t < P.types.size) → DataW.TrodAll enc P W 0 (fun _ => true) true ts vs ds ps → (∀ p ∈ ps, W.sameAt W' p) → (∀ p ∈ ps, sp' p.block = true) → DataW.TrodAll enc P W' 0 sp' true ts vs ds ps
  | [], [], [], _, _, h, _, _ => h
  | t :: ts, v :: vs, d :: ds, ps, ht, h, hs, hp => by
    obtain ⟨p, q, h1, h2, rfl⟩ := h
    exact ⟨p, q, WideElems.Trod_stays hl (ht t (by simp)).1 (ht t (by simp)).2 h1 (fun x hx => hs x (by simp [hx])) (fun x hx => hp x (by simp [hx])),
      trodAll_stays hl ts vs ds q (fun u hu => ht u (by simp [hu])) h2 (fun x hx => hs x (by simp [hx])) (fun x hx => hp x (by simp [hx])), rfl⟩
  | [], _ :: _, _, _, _, h, _, _ => by simp [DataW.TrodAll] at h
  | [], [], _ :: _, _, _, h, _, _ => by simp [DataW.TrodAll] at h
  | _ :: _, [], _, _, _, h, _, _ => by simp [DataW.TrodAll] at h
  | _ :: _, _ :: _, [], _, _, h, _, _ => by simp [DataW.TrodAll] at h

/-- BEHIND THE WALK: the law returned true and made new memory alone. -/
theorem law_post {H : Type} {enc : TypeId × Value → H} {P : Program} (hl : laidOutB P = true) {f : Func} {s : ChangeSpec} {W W' : World} {args : Array Value} {ds : List (DataW H)} {before : List MemPlace} {tb : TypeId}
    (hsv : s.vars = []) (hrt : f.resultTypes = #[tb]) (htb : P.underlying tb = some .bool) (hts : ∀ t ∈ f.params.toList, P.readableRec t = true ∧ t < P.types.size)
    (hres : (s.fn H (ds ++ [])).results = [.lit (.bool true)]) (hargs : (s.fn H (ds ++ [])).args = ds) (hvs : (s.fn H (ds ++ [])).vars = [])
    (hW : DataW.Whole enc P f.params.toList s.vars false W args.toList ds [] before) (hb : Below W.heap.size W W') :
    s.post enc P f false true false false W args (.bool true) W' := by
  have hlt : ∀ p ∈ before, p.block < W.heap.size := fun p hp => hW.lt p hp
  have hold : ∀ p ∈ before, (fun b => decide (b < W.heap.size)) p.block = true := fun p hp => by simpa using hlt p hp
  have hW0 := hW
  obtain ⟨p, q, hA, hV, rfl, _, _⟩ := hW
  rw [hsv] at hV
  obtain rfl : q = [] := by simpa [DataW.TrodVars] using hV
  have har : ∀ sp : Nat → Bool, (∀ x ∈ p ++ [], sp x.block = true) → DataW.TrodAll enc P W' 0 sp true f.params.toList args.toList ds p := fun sp hsp =>
    trodAll_stays hl _ _ _ _ hts hA (fun x hx => hb.same (hlt x (by simp [hx]))) (fun x hx => hsp x (by simp [hx]))
  have hrs : ∀ (b : Nat) (sp : Nat → Bool) (hd : Bool), DataW.TrodAll enc P W' b sp hd f.resultTypes.toList ((Value.bool true).resultList f.resultTypes.size) (s.fn H (ds ++ [])).results [] := by
    intro b sp hd
    rw [hres, hrt]
    exact trodAll_mk1 (shut_bool htb _)
  refine ⟨ds, [], _, [], p, [], hW0, hrs _ _ _, by rw [hargs]; exact har _ hold, by rw [hsv, hvs]; rfl, World.keptBut_mono (fun p hp => ⟨hp, ?_⟩) (hb.frame (· ∈ p ++ [])), fun h => by cases h⟩
  rw [List.mem_append] at hp
  exact Or.inr hp

end Go.Proofs.Ytklmpagpkeffjaa

/- a list of numbers that came in, opened -/
namespace Go.Proofs.Ytklmpagpkeffjaa
open Go.ChangeShapes Go.WideShapes Go.ChangeAt Go.RowKit Go.Joins

/-- A list of numbers that came in, opened. -/
theorem open_nums {H : Type} {enc : TypeId × Value → H} {P : Program} {w : World} {spare : Nat → Bool} {held : Bool} {tS tE : TypeId} (hS : P.underlying tS = some (.slice tE)) (hE : P.underlying tE = some (.int .i64)) (hC : P.cellsOf tE = 1)
    {v : Value} {d : DataW H} {p : List MemPlace} (hv : ∃ a n c, v = .slice a n c) (h : DataW.Trod enc P w 0 spare held tS v d p) : ∃ a l c, v = .slice a (List.length l) c ∧ IntsAt w (fun _ => True) l a c := by
  obtain ⟨a, n, c, rfl⟩ := hv
  obtain ⟨fuel, hf⟩ := h
  rcases open_ints hS hE hC hf with ⟨hcs, _⟩ | ⟨a', len', cap', zs, hcs, _, hl, hm, hz, _, hcell, hwz⟩
  · simp [Value.cells] at hcs
    obtain ⟨rfl, rfl, rfl⟩ := hcs
    exact ⟨none, [], 0, rfl, IntsAt.nil (by omega)⟩
  · simp [Value.cells] at hcs
    obtain ⟨rfl, rfl, rfl⟩ := hcs
    have hm' : c ≤ 9223372036854775807 := hm
    have hzl : n ≤ zs.length := by rw [hz]; split <;> omega
    have hlen : (zs.take n).length = n := by simp; omega
    by_cases h0 : n = 0
    · subst h0
      exact ⟨_, [], _, rfl, IntsAt.nil hm'⟩
    obtain ⟨b, o, rfl, hc⟩ := ints_at hcell (by omega)
    refine ⟨_, zs.take n, _, by rw [hlen], by rw [hlen]; exact hl, hm', fun x hx => i64ok_of (hwz x (List.mem_of_mem_take hx)), .inr ⟨b, o, rfl, trivial, fun i hi => ?_⟩⟩
    have hi' : i < zs.length := by rw [hlen] at hi; omega
    rw [hc i hi', List.getD_eq_getElem?_getD, List.getElem?_eq_getElem hi']
    simp
end Go.Proofs.Ytklmpagpkeffjaa

/- bounds of what BuildAll and CircleOf answer (pure) -/
namespace Go.Proofs.Ytklmpagpkeffjaa

theorem cyc_bd {ch : Int → List Int} {ok : Int → Bool} {P : Int → Prop} (hx : ∀ k j, nxt ch ok k = some j → P j) : ∀ (f : Nat) (U : List Int) (k : Int), (∀ x ∈ U, P x) → P k → (∀ x ∈ cyc ch ok f U k, P x) ∧ (cyc ch ok f U k).length ≤ U.length + f
  | 0, U, k, _, _ => by unfold cyc; simp
  | f + 1, U, k, hU, hk => by
    unfold cyc
    split
    · exact ⟨fun x h => hU x (List.mem_of_mem_drop h), by rw [List.length_drop]; omega⟩
    · split
      · rename_i j hj
        obtain ⟨h1, h2⟩ := cyc_bd hx f (U ++ [k]) j (fun x h => by
          rcases List.mem_append.1 h with h | h
          · exact hU x h
          · rw [List.mem_singleton.1 h]; exact hk) (hx k j hj)
        exact ⟨h1, by rw [List.length_append, List.length_singleton] at h2; omega⟩
      · exact ⟨by simp, by simp⟩

theorem sh_len {s : Sh} (h : s.ok = true) : s.m.length ≤ 10 := by
  unfold Sh.ok at h
  simp only [Bool.and_eq_true, decide_eq_true_eq] at h
  omega

theorem coL_bd (s : Sh) (l : List Int) (key : Int) : (∀ x ∈ coL s l key, 0 ≤ x ∧ x < 10) ∧ (coL s l key).length ≤ 11 := by
  unfold coL
  split
  · rename_i hb
    unfold coB at hb
    rw [Bool.and_eq_true, Bool.and_eq_true, decide_eq_true_eq] at hb
    obtain ⟨⟨hin, hk⟩, _⟩ := hb
    obtain ⟨hok, _, _⟩ := inOk_of hin
    have hn := sh_len hok
    have hg := gr_S hok l
    have hP : ∀ j, okS s l j = false → 0 ≤ j ∧ j < 10 := by
      intro j hj
      have hd : (fun k => !s.mdI k) j = false := by
        cases hd : (fun k => !s.mdI k) j
        · rfl
        · rw [hg.d0ok j hd] at hj; cases hj
      have := hg.inn j hd
      omega
    obtain ⟨h1, h2⟩ := cyc_bd (ch := chS s l) (ok := okS s l) (P := fun j => 0 ≤ j ∧ j < 10) (fun k j hj => hP j (nxt_some hj).2) (s.m.length + 1 - 0) [] key (by simp) (by omega)
    unfold circ
    exact ⟨h1, by simpa using Nat.le_trans h2 (by simp; omega)⟩
  · exact ⟨by simp, by simp⟩

theorem baL_bd (s : Sh) (l : List Int) : (∀ x ∈ baL s l, 0 ≤ x ∧ x ≤ 96) ∧ (baL s l).length ≤ 10 := by
  unfold baL
  split
  · rename_i hb
    unfold baB at hb
    rw [Bool.and_eq_true] at hb
    obtain ⟨hin, _⟩ := hb
    have hn := sh_len (inOk_of hin).1
    unfold baVs
    refine ⟨fun x hx => ?_, by simpa using hn⟩
    obtain ⟨i, _, rfl⟩ := List.mem_map.1 hx
    exact vsS_bd hin _
  · exact ⟨by simp, by simp⟩
end Go.Proofs.Ytklmpagpkeffjaa

/- an order that fits: what is asked of each of its keys; plain words, no program -/
namespace Go.Proofs.Ytklmpagpkeffjaa
open Go.RowKit

/-- What is asked of the key k behind the keys pre. -/
def ofOne (s : Sh) (vs : Int → Int) (pre : List Int) (k : Int) : Bool := s.mdI k && (!decide (k ∈ pre) && ((usesL ((s.tkI k).kys vs)).filter s.mdI).all (fun u => decide (u ∈ pre)))
def ofTo (s : Sh) (vs : Int → Int) (o : List Int) (n : Nat) : Bool := (List.range n).all fun i => ofOne s vs (o.take i) (o.getD i 0)
noncomputable def ofB (s : Sh) (l o : List Int) : Bool := baB s l && ofTo s (vf (baL s l)) o o.length

theorem ofTo_zero (s : Sh) (vs : Int → Int) (o : List Int) : ofTo s vs o 0 = true := rfl
theorem ofTo_succ (s : Sh) (vs : Int → Int) (o : List Int) {k : Nat} (hk : k < o.length) : ofTo s vs o (k + 1) = (ofTo s vs o k && ofOne s vs (o.take k) o[k]) := by
  unfold ofTo
  rw [List.range_succ, List.all_append, List.all_cons, List.all_nil, Bool.and_true, List.getD_eq_getElem?_getD, List.getElem?_eq_getElem hk]
  rfl
theorem ofTo_false {s : Sh} {vs : Int → Int} {o : List Int} {k n : Nat} (h : k < n) (hn : n ≤ o.length) (ho : ofOne s vs (o.take k) (o[k]'(by omega)) = false) : ofTo s vs o n = false := by
  cases hx : ofTo s vs o n
  · rfl
  · unfold ofTo at hx
    rw [List.all_eq_true] at hx
    have := hx k (List.mem_range.2 h)
    rw [List.getD_eq_getElem?_getD, List.getElem?_eq_getElem (by omega)] at this
    simp only [Option.getD_some] at this
    rw [ho] at this
    cases this

theorem ok_of_ba {s : Sh} {l : List Int} (h : baB s l = true) : s.ok = true := by
  unfold baB at h
  rw [Bool.and_eq_true] at h
  exact (inOk_of h.1).1
theorem tkI_ok {s : Sh} {l : List Int} (h : baB s l = true) (k : Int) : ((s.tkI k).ok && vok (baL s l)) = true := by
  obtain ⟨h1, h2⟩ := Sh.tk_fit (ok_of_ba h) k.toNat
  have h3 := baL_bd s l
  rw [Bool.and_eq_true]
  refine ⟨by unfold Sh.tkI; simp [T.ok]; exact ⟨h1, h2⟩, ?_⟩
  unfold vok
  rw [Bool.and_eq_true, decide_eq_true_eq, List.all_eq_true]
  refine ⟨h3.2, fun x hx => ?_⟩
  have := h3.1 x hx
  simp [vin]
  omega
/-- Keys of an order that fits are keys. -/
theorem ofTo_hk {s : Sh} {vs : Int → Int} {o : List Int} (h : ofTo s vs o o.length = true) : hkB s o = true := by
  unfold hkB
  rw [List.all_eq_true]
  intro x hx
  obtain ⟨i, hi, rfl⟩ := List.getElem_of_mem hx
  rw [decide_eq_true_eq]
  refine mdI_bd ?_
  cases hm : s.mdI o[i]
  · have : ofTo s vs o o.length = false := ofTo_false hi (Nat.le_refl _) (by unfold ofOne; rw [hm]; rfl)
    rw [h] at this; cases this
  · rfl
end Go.Proofs.Ytklmpagpkeffjaa

/- impl.OrderFits -/
namespace Go.Proofs.Ytklmpagpkeffjaa
open Go.RowKit

set_option maxRecDepth 100000 in
set_option maxHeartbeats 4000000 in
theorem implFits_any (s : Sh) (l o : List Int) (w : World) (S0 S1 S2 : Nat → Prop) (a : Option Addr) (c : Nat) (a' : Option Addr) (c' : Nat) (ai : Option Addr) (ci : Nat) (ao : Option Addr) (co : Nat) (h0 : ShAt w S0 s a c a' c') (hl : IntsAt w S1 l ai ci) (ho : IntsAt w S2 o ao co) :
    Calls Try.prog 20 #[.agg #[.slice a s.m.length c, .slice a' s.t.length c'], .slice ai l.length ci, .slice ao o.length co] w fun e w' => e = .returned (.bool (ofB s l o)) ∧ Below w.heap.size w w' := by
  obtain ⟨S, hSd⟩ : ∃ S : Nat → Prop, S = fun b => S0 b ∧ b < w.heap.size := ⟨_, rfl⟩
  have hSl : ∀ b, S b → b < w.heap.size := by rw [hSd]; exact fun b h => h.2
  have h : ShAt w S s a c a' c' := by rw [hSd]; exact h0.lim
  have HSL := Lib.hid hSl
  have K0 := Lib.hid (Ks.start (ty := 26) h)
  have L0 := Lib.hid (hl.alloc (.cells #[.slice a s.m.length c, .slice a' s.t.length c'] 26))
  have O0 := Lib.hid (ho.lim.alloc (.cells #[.slice a s.m.length c, .slice a' s.t.length c'] 26))
  have hol : o.length ≤ 9223372036854775807 := by have := ho.1; have := ho.2.1; omega
  obtain ⟨OL, hOL⟩ : ∃ n, n = o.length := ⟨_, rfl⟩
  have HOL := Lib.hid hOL
  rw [← hOL] at hol ⊢
  obtain ⟨r, hr⟩ : ∃ r, r = ofB s l o := ⟨_, rfl⟩
  have HR := Lib.hid hr
  rw [← hr]
  clear h h0 hl ho hSd hSl hOL hr
  obtain ⟨x0, x1⟩ := K0.out.box
  have hmm := @run_makeMap Try.prog
  cases hba : baB s l
  · have HB := Lib.hid hba
    clear hba
    go_enter Try.func20, Try.ntmps20
    go_wp2_with fail
    refine (implAll_any s l _ S _ a c a' c' ai ci K0.out.2 L0.out).mono ?_
    rintro e w1 ⟨hb, v, rfl, _⟩
    rw [HB.out]
    have K1 := Lib.hid (K0.out.step hb)
    clear hb x0 x1
    go_wp2_with fail
    go_ret
    exact ⟨ret_bool (by rw [HR.out]; unfold ofB; rw [HB.out]; rfl), K1.out.done⟩
  · have HB := Lib.hid hba
    have hrr : r = ofTo s (vf (baL s l)) o o.length := by rw [HR.out]; unfold ofB; rw [hba]; rfl
    have HRR := Lib.hid hrr
    clear hba hrr
    go_enter Try.func20, Try.ntmps20
    go_wp2_with fail
    refine (implAll_any s l _ S _ a c a' c' ai ci K0.out.2 L0.out).mono ?_
    rintro e w1 ⟨hb, v, rfl, hrow⟩
    rw [HB.out]
    obtain ⟨av, cv, rfl, hia⟩ := hrow.at (fun x hx => by have := (baL_bd s l).1 x hx; unfold i64ok; omega)
    have hs1 := (K0.out.step hb).size
    have K1 := Lib.hid ((K0.out.step hb).alloc (.map #[] 0))
    have O1 := Lib.hid ((O0.out.below hb).alloc (.map #[] 0))
    have V1 := Lib.hid (hia.lim.alloc (.map #[] 0))
    have M1 := Lib.hid (MapB.made w1)
    clear hb hrow hia x0 x1 K0 L0 O0
    go_wp2_with fail
    go_loopw [25] (fun i wr => ∃ k : Nat, k ≤ OL ∧ i = .int .i64 k ∧ ofTo s (vf (baL s l)) o k = true ∧ Ks S s a c a' c' 26 w wr ∧ IntsAt wr (fun b => S2 b ∧ b < w.heap.size) o ao co ∧ IntsAt wr (fun b => w.heap.size + 1 ≤ b ∧ b < w1.heap.size) (baL s l) av cv ∧ MapB wr w1.heap.size k (fun x => decide (x ∈ o.take k)) ∧ w1.heap.size < wr.heap.size) (fun i _ => OL - (intOf i).toNat)
    case atStart => exact ⟨0, by omega, rfl, ofTo_zero _ _ _, K1.out, O1.out, V1.out.weaken (fun b hb => ⟨by simpa using hb.1, by simpa using hb.2⟩), M1.out.congr (fun _ _ => by simp), by simp⟩
    case round =>
      obtain ⟨k, hk, rfl, hall, hK, hO, hV, hM, hgl⟩ := hrel
      have H2 := Lib.hid (And.intro hK (And.intro hO (And.intro hV hM)))
      have HA := Lib.hid hall
      obtain ⟨x0, x1⟩ := hK.box
      clear hall hK hO hV hM K1 O1 V1 M1
      by_cases hlt : k < OL
      · have hlt2 : k < o.length := by have := HOL.out; omega
        obtain ⟨b, ob, rfl, hbl, _, hc⟩ := H2.out.2.1.get (Below.refl _ _) hlt2
        obtain ⟨key, hkey⟩ : ∃ key, key = o[k] := ⟨_, rfl⟩
        have hkok : i64ok key := by rw [hkey]; exact H2.out.2.1.2.2.1 _ (List.getElem_mem _)
        rw [← hkey] at hc
        have HKEY := Lib.hid (And.intro hkey hkok)
        have HL2 := Lib.hid hlt2
        have HSUC := Lib.hid (ofTo_succ s (vf (baL s l)) o hlt2)
        have HNO := Lib.hid (show ofOne s (vf (baL s l)) (o.take k) key = false → r = false from fun h => by
          rw [HRR.out]
          exact ofTo_false hlt2 (Nat.le_refl _) (by rw [← hkey]; exact h))
        cases hmk : s.mdI key
        · have HMK := Lib.hid hmk
          clear hkey hmk hkok
          go_wp2_with fail
          refine (isMade_any s _ S a c a' c' key H2.out.1.2).mono ?_
          rintro e w2 ⟨rfl, hb⟩
          rw [HMK.out]
          have K2 := Lib.hid (H2.out.1.step hb)
          clear hb x0 x1 hc
          go_wp2_with fail
          go_ret
          exact ⟨ret_bool (HNO.out (by unfold ofOne; rw [HMK.out]; rfl)).symm, K2.out.done⟩
        · have HMK := Lib.hid hmk
          have hkb := mdI_bd hmk
          obtain ⟨kn, rfl⟩ : ∃ kn : Nat, key = kn := ⟨key.toNat, by omega⟩
          have hkn : kn < s.m.length := by omega
          have HTL := Lib.hid (show s.t.length = s.m.length from (Sh.ok_iff.1 (ok_of_ba HB.out)).2.1)
          have h10 : s.m.length ≤ 10 := (Sh.ok_iff.1 (ok_of_ba HB.out)).1
          clear hkey hmk hkok hkb
          obtain ⟨p, hp⟩ : ∃ p, p = decide ((kn : Int) ∈ o.take k) := ⟨_, rfl⟩
          have HP := Lib.hid hp
          clear hp
          go_wp2_with fail
          refine (isMade_any s _ S a c a' c' kn H2.out.1.2).mono ?_
          rintro e w2 ⟨rfl, hb⟩
          rw [HMK.out]
          have hlook := (H2.out.2.2.2.step hb).look Try.underlying72 HKEY.out.2
          rw [← HP.out] at hlook
          have H3 := Lib.hid (And.intro (H2.out.1.step hb) (And.intro (H2.out.2.1.below hb) (And.intro (H2.out.2.2.1.below hb) (H2.out.2.2.2.step hb))))
          have hgl3 : w1.heap.size < w2.heap.size := Nat.lt_of_lt_of_le hgl hb.size
          clear hb x0 x1 hc H2 hgl
          obtain ⟨x0, x1⟩ := H3.out.1.box
          cases p
          · have hkt : kn < s.t.length := by have := HTL.out; omega
            obtain ⟨b', o', a2, c2, rfl, hbl', hSb', e0, e1, e2, hat, _, _⟩ := H3.out.1.2.2.elem (Below.refl _ _) hkt
            have htk : s.t[kn] = s.tkI (kn : Int) := by unfold Sh.tkI; rw [Int.toNat_natCast]; exact (getD_len hkt).symm
            rw [htk] at hat e0 e1 e2
            have HAT := Lib.hid hat
            clear hat htk
            go_wp2_with fail
            refine (implUses_any (s.tkI (kn : Int)) (baL s l) w2 _ _ a2 av c2 cv HAT.out H3.out.2.2.1).mono ?_
            rintro e w4 ⟨hb, v, rfl, hrow⟩
            rw [if_pos (tkI_ok HB.out _)] at hrow
            have hks := (kys_ok (tkI_ok HB.out (kn : Int)))
            obtain ⟨us, hus⟩ : ∃ us, us = usesL ((s.tkI (kn : Int)).kys (vf (baL s l))) := ⟨_, rfl⟩
            have hul : us.length ≤ 15 := by
              rw [hus]
              have := usesL_len ((s.tkI (kn : Int)).kys (vf (baL s l)))
              omega
            rw [← hus] at hrow
            have hub : ∀ x ∈ us, i64ok x := fun x hx => by
              rw [hus] at hx
              have := hks.1 x (usesL_mem.1 hx)
              unfold i64ok; omega
            obtain ⟨au, cu, rfl, hiu⟩ := hrow.at hub
            have HUS := Lib.hid (And.intro hus (And.intro hul hub))
            have H4 := Lib.hid (And.intro (H3.out.1.step hb) (And.intro (H3.out.2.1.below hb) (And.intro (H3.out.2.2.1.below hb) (H3.out.2.2.2.step hb))))
            have HIU := Lib.hid hiu
            have hgl4 : w1.heap.size < w4.heap.size := Nat.lt_of_lt_of_le hgl3 hb.size
            clear hb hrow hks hus hul hub hiu x0 x1 e0 e1 e2 hlook H3 HAT hgl3
            obtain ⟨x0, x1⟩ := H4.out.1.box
            go_wp2_with fail
            refine (madeOf_any s us _ S _ a c (some ⟨b', o', none⟩) c' au cu H4.out.1.2 HIU.out (by have := HUS.out.2.1; omega)).mono ?_
            rintro e w5 ⟨v, rfl, hrow, hb⟩
            obtain ⟨am, cm, rfl, him⟩ := hrow.at (fun x hx => HUS.out.2.2 x (List.mem_filter.1 hx).1)
            have H5 := Lib.hid (And.intro (H4.out.1.step hb) (And.intro (H4.out.2.1.below hb) (And.intro (H4.out.2.2.1.below hb) (H4.out.2.2.2.step hb))))
            have HIM := Lib.hid him
            have hgl5 : w1.heap.size < w5.heap.size := Nat.lt_of_lt_of_le hgl4 hb.size
            clear hb hrow him x0 x1 HIU H4 hgl4
            go_wp2_with fail
            refine (allBuilt_any (us.filter s.mdI) w5 _ am cm w1.heap.size k _ HIM.out H5.out.2.2.2).mono ?_
            rintro e w6 ⟨rfl, rfl⟩
            obtain ⟨p, hp⟩ : ∃ p, p = (us.filter s.mdI).all (fun x => decide (x ∈ o.take k)) := ⟨_, rfl⟩
            rw [← hp]
            have hone : ofOne s (vf (baL s l)) (o.take k) (kn : Int) = p := by
              unfold ofOne
              rw [HMK.out, ← HP.out, ← HUS.out.1, hp]
              rfl
            have HONE := Lib.hid hone
            clear hp hone HIM
            cases p
            · go_wp2_with fail
              go_ret
              exact ⟨ret_bool (HNO.out HONE.out).symm, H5.out.1.done⟩
            · have hml : maxLen = 9223372036854775807 := rfl
              have HML := Lib.hid hml
              clear hml
              go_wp2_with (at_mapUpdate; refine wpList_put_mapB _ rfl _ _ _ 72 rfl Try.underlying72 w1.heap.size k _ rfl H5.out.2.2.2 (by rw [HML.out]; omega) (kn : Int) rfl HKEY.out.2 rfl ?_)
              intro w7 hM7 hf7
              have hK7 : Ks S s a c (some ⟨b', o', none⟩) c' 26 w w7 := H5.out.1.fr hf7 (fun b hb => by omega) HSL.out
              have hO7 := H5.out.2.1.fr hf7 (fun b hb h => by have := hb.2; omega)
              have hV7 := H5.out.2.2.1.fr hf7 (fun b hb h => by have := hb.2; omega)
              have hM8 : MapB w7 w1.heap.size (k + 1) (fun x => decide (x ∈ o.take (k + 1))) := hM7.congr (fun x _ => by
                rw [List.take_succ_eq_append_getElem HL2.out, ← HKEY.out.1]
                simp only [List.mem_append, List.mem_singleton, Bool.decide_or])
              have hgl7 : w1.heap.size < w7.heap.size := Nat.lt_of_lt_of_le hgl5 hf7.size
              have hall7 : ofTo s (vf (baL s l)) o (k + 1) = true := by rw [HSUC.out, HA.out, ← HKEY.out.1, HONE.out]; rfl
              have H7 := Lib.hid (And.intro hK7 (And.intro hO7 (And.intro hV7 (And.intro hM8 (And.intro hgl7 hall7)))))
              clear hM7 hf7 hK7 hO7 hV7 hM8 hgl7 hall7 H5 hgl5
              go_wp2_with fail
              go_roundw
              case rel => exact ⟨k + 1, by omega, by go_num, H7.out.2.2.2.2.2, H7.out.1, H7.out.2.1, H7.out.2.2.1, H7.out.2.2.2.1, H7.out.2.2.2.2.1⟩
              case measure => simp [intOf]; omega
          · go_wp2_with fail
            go_ret
            exact ⟨ret_bool (HNO.out (by unfold ofOne; rw [HMK.out, ← HP.out]; rfl)).symm, H3.out.1.done⟩
      · have hall : r = true := by
          have := HA.out
          rw [HRR.out, ← HOL.out]
          obtain rfl : k = OL := by omega
          exact this
        have HALL := Lib.hid hall
        clear hall
        go_wp2_with fail
        go_ret
        exact ⟨ret_bool HALL.out.symm, H2.out.1.done⟩
end Go.Proofs.Ytklmpagpkeffjaa

/- spec.l4Keys, spec.OrderFits -/
namespace Go.Proofs.Ytklmpagpkeffjaa
open Go.RowKit

theorem IntsAt.upto {w : World} {S : Nat → Prop} {l : List Int} {a : Option Addr} {c : Nat} (h : IntsAt w S l a c) (i : Nat) : IntsAt w S (l.take i) a c := by
  obtain ⟨h1, h2, h3, h4⟩ := h
  refine ⟨by rw [List.length_take]; omega, h2, fun v hv => h3 v (List.mem_of_mem_take hv), ?_⟩
  rcases h4 with h4 | ⟨b, o, ha, hS, hc⟩
  · exact .inl (by rw [h4]; simp)
  · refine .inr ⟨b, o, ha, hS, fun j hj => ?_⟩
    rw [List.getElem_take]
    exact hc j (by rw [List.length_take] at hj; omega)

/-- They are keys of a sheet. -/
def kyB (s : Sh) (ks : List Int) : Bool := hkB s ks && s.ok

set_option maxRecDepth 100000 in
set_option maxHeartbeats 2000000 in
theorem l4Keys_any (s : Sh) (ks : List Int) (w : World) (S S' : Nat → Prop) (a : Option Addr) (c : Nat) (a' : Option Addr) (c' : Nat) (ak : Option Addr) (ck : Nat) (h : ShAt w S s a c a' c') (hn : nodesL s.t ≤ 1048576) (hks : IntsAt w S' ks ak ck) :
    Calls Try.prog 57 #[.agg #[.slice a s.m.length c, .slice a' s.t.length c'], .slice ak ks.length ck] w fun e w' => e = .returned (.bool (kyB s ks)) ∧ Below w.heap.size w w' := by
  have K0 := Lib.hid (Ks.start (ty := 26) h)
  have HI := Lib.hid (hks.alloc (.cells #[.slice a s.m.length c, .slice a' s.t.length c'] 26))
  have hkl : ks.length ≤ 9223372036854775807 := by have := hks.1; have := hks.2.1; omega
  have hlm : s.m.length ≤ 9223372036854775807 := by have := h.1.1; have := h.1.2.1; omega
  have HN := Lib.hid hn
  obtain ⟨KL, hKL⟩ : ∃ n, n = ks.length := ⟨_, rfl⟩
  have HKL := Lib.hid hKL
  rw [← hKL] at hkl ⊢
  obtain ⟨r, hr⟩ : ∃ r, r = kyB s ks := ⟨_, rfl⟩
  have HR := Lib.hid hr
  rw [← hr]
  clear h hks hKL hr hn
  go_enter Try.func57, Try.ntmps57
  go_wp2_with fail
  go_loopw [5] (fun i wr => ∃ k : Nat, k ≤ KL ∧ i = .int .i64 k ∧ (ks.take k).all (fun k => decide (0 ≤ k ∧ k < s.m.length)) = true ∧ Ks S s a c a' c' 26 w wr ∧ IntsAt wr S' ks ak ck) (fun i _ => KL - (intOf i).toNat)
  case atStart => exact ⟨0, by omega, rfl, by simp, K0.out, HI.out⟩
  case round =>
    obtain ⟨k, hk, rfl, hall, hK, hI⟩ := hrel
    have HA := Lib.hid hall
    have HK := Lib.hid (And.intro hK hI)
    obtain ⟨x0, x1⟩ := hK.box
    clear hall hK hI K0 HI
    by_cases hlt : k < KL
    · have hlt2 : k < ks.length := by have := HKL.out; omega
      obtain ⟨b, o, rfl, hbl, _, hc⟩ := HK.out.2.get (Below.refl _ _) hlt2
      obtain ⟨key, hkey⟩ : ∃ key, key = ks[k] := ⟨_, rfl⟩
      rw [← hkey] at hc
      have HKEY := Lib.hid hkey
      obtain ⟨p, hp⟩ : ∃ p, p = decide (0 ≤ key ∧ key < s.m.length) := ⟨_, rfl⟩
      have hdk : decide ((0 : Int) ≤ key ∧ key ≤ (s.m.length : Int) - 1) = p := by
        rw [hp]
        by_cases h : 0 ≤ key ∧ key < s.m.length
        · rw [decide_eq_true h, decide_eq_true (by omega)]
        · rw [decide_eq_false h, decide_eq_false (by omega)]
      have hwr : IntKind.i64.wrap ((s.m.length : Int) - 1) = (s.m.length : Int) - 1 := IntWalk.i64_in _ ⟨by omega, by omega⟩
      rw [← hwr] at hdk
      have HD := Lib.hid hdk
      have HP := Lib.hid hp
      have HL2 := Lib.hid hlt2
      clear hkey hp hdk hwr
      go_wp2_with fail
      go_region_with (go_at_call 102; refine (in_any _ _ _ _).mono ?_; rw [HD.out]; rintro e w9 ⟨rfl, rfl⟩)
      all_goals
        have K1 := Lib.hid (And.intro (HK.out.1.drewN 1) (HK.out.2.drewN 1))
        cases p
        · go_wp2_with fail
          go_ret
          exact ⟨ret_bool (by rw [HR.out]; unfold kyB hkB; rw [all_fls HL2.out (by rw [← HKEY.out]; exact HP.out.symm)]; rfl), below_drewN HK.out.1.done _⟩
        · go_wp2_with fail
          go_roundw
          case rel => exact ⟨k + 1, by omega, by go_num, by rw [all_tk HL2.out, HA.out, ← HKEY.out, ← HP.out]; rfl, HK.out.1.drewN _, HK.out.2.drewN _⟩
          case measure => simp [intOf]; omega
    · have hall : hkB s ks = true := by
        have := HA.out
        rwa [List.take_of_length_le (by have := HKL.out; omega)] at this
      have hrk : s.ok = r := by rw [HR.out]; unfold kyB; rw [hall]; rfl
      have HALL := Lib.hid hrk
      clear hall hrk
      go_wp2_with fail
      refine (specSheetOk_any s _ S a c a' c' HK.out.1.2 HN.out).mono ?_
      rintro e w1 ⟨rfl, hb⟩
      rw [HALL.out]
      have K1 := Lib.hid (HK.out.1.step hb)
      clear hb x0 x1
      go_wp2_with fail
      go_ret
      exact ⟨rfl, K1.out.done⟩

set_option maxRecDepth 100000 in
set_option maxHeartbeats 4000000 in
theorem specFits_any (s : Sh) (l o : List Int) (w : World) (S0 S1 S2 : Nat → Prop) (a : Option Addr) (c : Nat) (a' : Option Addr) (c' : Nat) (ai : Option Addr) (ci : Nat) (ao : Option Addr) (co : Nat) (h0 : ShAt w S0 s a c a' c') (hn : nodesL s.t ≤ 1048576) (hl : IntsAt w S1 l ai ci) (ho : IntsAt w S2 o ao co) :
    Calls Try.prog 31 #[.agg #[.slice a s.m.length c, .slice a' s.t.length c'], .slice ai l.length ci, .slice ao o.length co] w fun e w' => e = .returned (.bool (ofB s l o)) ∧ Below w.heap.size w w' := by
  have K0 := Lib.hid (Ks.start (ty := 26) h0)
  have L0 := Lib.hid (hl.alloc (.cells #[.slice a s.m.length c, .slice a' s.t.length c'] 26))
  have O0 := Lib.hid (ho.alloc (.cells #[.slice a s.m.length c, .slice a' s.t.length c'] 26))
  have hol : o.length ≤ 9223372036854775807 := by have := ho.1; have := ho.2.1; omega
  have hoc : o.length ≤ co ∧ co ≤ 9223372036854775807 := ⟨ho.1, ho.2.1⟩
  have HN := Lib.hid hn
  obtain ⟨OL, hOL⟩ : ∃ n, n = o.length := ⟨_, rfl⟩
  have HOL := Lib.hid hOL
  rw [← hOL] at hol hoc ⊢
  obtain ⟨r, hr⟩ : ∃ r, r = ofB s l o := ⟨_, rfl⟩
  have HR := Lib.hid hr
  rw [← hr]
  clear h0 hl ho hOL hr hn
  obtain ⟨x0, x1⟩ := K0.out.box
  cases hba : baB s l
  · have HB := Lib.hid hba
    clear hba
    go_enter Try.func31, Try.ntmps31
    go_wp2_with fail
    refine (specAll_any s l _ S0 _ a c a' c' ai ci K0.out.2 HN.out L0.out).mono ?_
    rintro e w1 ⟨hb, v, rfl, _⟩
    rw [HB.out]
    have K1 := Lib.hid (K0.out.step hb)
    clear hb x0 x1
    go_wp2_with fail
    go_ret
    exact ⟨ret_bool (by rw [HR.out]; unfold ofB; rw [HB.out]; rfl), K1.out.done⟩
  · have HB := Lib.hid hba
    have hrr : r = ofTo s (vf (baL s l)) o o.length := by rw [HR.out]; unfold ofB; rw [hba]; rfl
    have HRR := Lib.hid hrr
    have hkk : kyB s o = hkB s o := by unfold kyB; rw [ok_of_ba hba, Bool.and_true]
    have HKK := Lib.hid hkk
    clear hba hrr hkk
    go_enter Try.func31, Try.ntmps31
    go_wp2_with fail
    refine (specAll_any s l _ S0 _ a c a' c' ai ci K0.out.2 HN.out L0.out).mono ?_
    rintro e w1 ⟨hb, v, rfl, hrow⟩
    rw [HB.out]
    obtain ⟨av, cv, rfl, hia⟩ := hrow.at (fun x hx => by have := (baL_bd s l).1 x hx; unfold i64ok; omega)
    have K1 := Lib.hid (K0.out.step hb)
    have O1 := Lib.hid (O0.out.below hb)
    have V1 := Lib.hid hia
    clear hb hrow hia x0 x1 K0 L0 O0
    obtain ⟨x0, x1⟩ := K1.out.box
    go_wp2_with fail
    have hkc := l4Keys_any s o w1 _ _ a c a' c' ao co K1.out.2 HN.out O1.out
    rw [← HOL.out] at hkc
    refine hkc.mono ?_
    clear hkc
    rintro e w2 ⟨rfl, hb⟩
    rw [HKK.out]
    have K2 := Lib.hid (K1.out.step hb)
    have O2 := Lib.hid (O1.out.below hb)
    have V2 := Lib.hid (V1.out.below hb)
    clear hb x0 x1 K1 O1 V1
    cases hkb : hkB s o
    · have hrf : r = false := by
        rw [HRR.out]
        cases hx : ofTo s (vf (baL s l)) o o.length
        · rfl
        · rw [ofTo_hk hx] at hkb; cases hkb
      have HRF := Lib.hid hrf
      clear hkb hrf
      go_wp2_with fail
      go_ret
      exact ⟨ret_bool HRF.out.symm, K2.out.done⟩
    · have HKB := Lib.hid hkb
      clear hkb
      go_wp2_with fail
      go_loopw [9] (fun i wr => ∃ k : Nat, k ≤ OL ∧ i = .int .i64 k ∧ ofTo s (vf (baL s l)) o k = true ∧ Ks S0 s a c a' c' 26 w wr ∧ IntsAt wr S2 o ao co ∧ IntsAt wr (fun b => w.heap.size + 1 ≤ b) (baL s l) av cv) (fun i _ => OL - (intOf i).toNat)
      case atStart => exact ⟨0, by omega, rfl, ofTo_zero _ _ _, K2.out, O2.out, V2.out.weaken (fun b hb => by simpa using hb)⟩
      case round =>
        obtain ⟨k, hk, rfl, hall, hK, hO, hV⟩ := hrel
        have H3 := Lib.hid (And.intro hK (And.intro hO hV))
        have HA := Lib.hid hall
        obtain ⟨x0, x1⟩ := hK.box
        clear hall hK hO hV K2 O2 V2
        by_cases hlt : k < OL
        · have hlt2 : k < o.length := by have := HOL.out; omega
          obtain ⟨b, ob, rfl, hbl, _, hc⟩ := H3.out.2.1.get (Below.refl _ _) hlt2
          obtain ⟨key, hkey⟩ : ∃ key, key = o[k] := ⟨_, rfl⟩
          have hkr : 0 ≤ key ∧ key < s.m.length := by
            have h := HKB.out
            unfold hkB at h
            rw [List.all_eq_true] at h
            have h := h o[k] (List.getElem_mem _)
            rw [decide_eq_true_eq] at h
            rw [hkey]; exact h
          obtain ⟨kn, rfl⟩ : ∃ kn : Nat, key = kn := ⟨key.toNat, by omega⟩
          have hkn : kn < s.m.length := by omega
          rw [← hkey] at hc
          have HKEY := Lib.hid hkey
          have HL2 := Lib.hid hlt2
          have HSUC := Lib.hid (ofTo_succ s (vf (baL s l)) o hlt2)
          have HNO := Lib.hid (show ofOne s (vf (baL s l)) (o.take k) (kn : Int) = false → r = false from fun h => by
            rw [HRR.out]
            exact ofTo_false hlt2 (Nat.le_refl _) (by rw [← hkey]; exact h))
          have HTL := Lib.hid (show s.t.length = s.m.length from (Sh.ok_iff.1 (ok_of_ba HB.out)).2.1)
          have h10 : s.m.length ≤ 10 := (Sh.ok_iff.1 (ok_of_ba HB.out)).1
          clear hkey hkr
          obtain ⟨bm, om, ha, hbml, hcm⟩ := md_cell H3.out.1.2 hkn
          have HAA := Lib.hid ha
          clear ha
          obtain ⟨mk, hmk⟩ : ∃ mk, mk = s.mdI (kn : Int) := ⟨_, rfl⟩
          rw [← hmk] at hcm
          have HMK := Lib.hid hmk
          clear hmk
          obtain rfl := HAA.out
          have htake : (o.take k).length = k := by rw [List.length_take]; omega
          have HTK := Lib.hid htake
          clear htake
          cases mk
          · go_wp2_with fail
            go_ret
            exact ⟨ret_bool (HNO.out (by unfold ofOne; rw [← HMK.out]; rfl)).symm, H3.out.1.done⟩
          · obtain ⟨p, hp⟩ : ∃ p, p = decide ((kn : Int) ∈ o.take k) := ⟨_, rfl⟩
            have HP := Lib.hid hp
            clear hp
            have hhas : ∀ (n : Int) (w' : World), IntsAt w' S2 o (some ⟨b, ob, none⟩) co → Calls Try.prog 59 #[.slice (some ⟨b, ob, none⟩) k co, .int .i64 n] w' fun e w'' => e = .returned (.bool (decide (n ∈ o.take k))) ∧ w' = w'' := fun n w' h => by
              have h2 := has_any w' S2 (o.take k) (some ⟨b, ob, none⟩) co n (h.upto k)
              rw [HTK.out] at h2
              exact h2
            have HHAS := Lib.hid hhas
            clear hhas
            go_wp2_with fail
            refine (HHAS.out (kn : Int) wr H3.out.2.1).mono ?_
            rintro e w4 ⟨rfl, rfl⟩
            rw [← HP.out]
            cases p
            · have hkt : kn < s.t.length := by have := HTL.out; omega
              obtain ⟨b', o', a2, c2, rfl, hbl', hSb', e0, e1, e2, hat, _, _⟩ := H3.out.1.2.2.elem (Below.refl _ _) hkt
              have htk : s.t[kn] = s.tkI (kn : Int) := by unfold Sh.tkI; rw [Int.toNat_natCast]; exact (getD_len hkt).symm
              rw [htk] at hat e0 e1 e2
              have HAT := Lib.hid hat
              clear hat htk
              have hvk := tkI_ok HB.out (kn : Int)
              rw [Bool.and_eq_true] at hvk
              have hfn : (s.tkI (kn : Int)).fit = true ∧ (s.tkI (kn : Int)).nodes ≤ 15 := by simpa [T.ok] using hvk.1
              have HVK := Lib.hid (And.intro hvk.2 hfn)
              have hks := (kys_ok (tkI_ok HB.out (kn : Int)))
              obtain ⟨ks, hkss⟩ : ∃ ks, ks = (s.tkI (kn : Int)).kys (vf (baL s l)) := ⟨_, rfl⟩
              rw [← hkss] at hks
              have HKS := Lib.hid (And.intro hkss hks)
              clear hvk hfn hkss hks
              go_wp2_with fail
              refine (run_any (baL s l) HVK.out.1 (s.tkI (kn : Int)) HVK.out.2.1 (by have := HVK.out.2.2; omega) wr _ _ a2 av c2 cv HAT.out H3.out.2.2).mono ?_
              rintro e w5 ⟨vo, rfl, hrow, hb⟩
              rw [← HKS.out.1] at hrow
              obtain ⟨af, cf, rfl, hfe⟩ := hrow.at
              have H5 := Lib.hid (And.intro (H3.out.1.step hb) (And.intro (H3.out.2.1.below hb) (H3.out.2.2.below hb)))
              have HF := Lib.hid hfe
              clear hb hrow hfe x0 x1 e0 e1 e2 hc hcm HAT
              go_wp2_with fail
              refine (uses_any (vf (baL s l)) w5 _ ks af cf HF.out HKS.out.2.1 (by have := HKS.out.2.2; omega)).mono ?_
              rintro e w6 ⟨v, rfl, hrow, hb⟩
              obtain ⟨us, hus⟩ : ∃ us, us = usesL ks := ⟨_, rfl⟩
              rw [← hus] at hrow
              have hul : us.length ≤ 15 := by
                rw [hus]
                have := usesL_len ks
                have := HKS.out.2.2
                omega
              have hub : ∀ x ∈ us, 0 ≤ x ∧ x ≤ 9 := fun x hx => by
                rw [hus] at hx
                exact HKS.out.2.1 x (usesL_mem.1 hx)
              obtain ⟨au, cu, rfl, hiu⟩ := hrow.at (fun x hx => by have := hub x hx; unfold i64ok; omega)
              have hone : ofOne s (vf (baL s l)) (o.take k) (kn : Int) = (us.filter s.mdI).all (fun u => decide (u ∈ o.take k)) := by
                unfold ofOne
                rw [← HMK.out, ← HP.out, ← HKS.out.1, ← hus]
                rfl
              have HONE := Lib.hid hone
              have HUB := Lib.hid hub
              have H6 := Lib.hid (And.intro (H5.out.1.step hb) (And.intro (H5.out.2.1.below hb) (And.intro (H5.out.2.2.below hb) hiu)))
              obtain ⟨UL, hUL⟩ : ∃ n, n = us.length := ⟨_, rfl⟩
              have HUL := Lib.hid hUL
              rw [← hUL] at hul ⊢
              clear hb hrow hus hub hiu hone hUL H5 H3 HF
              go_wp2_with fail
              go_loopw [14] (fun i wq => ∃ q : Nat, q ≤ UL ∧ i = .int .i64 q ∧ (us.take q).all (fun u => !s.mdI u || decide (u ∈ o.take k)) = true ∧ Ks S0 s (some ⟨bm, om, none⟩) c (some ⟨b', o', none⟩) c' 26 w wq ∧ IntsAt wq S2 o (some ⟨b, ob, none⟩) co ∧ IntsAt wq (fun b => w.heap.size + 1 ≤ b) (baL s l) av cv ∧ IntsAt wq (fun b => w5.heap.size ≤ b) us au cu) (fun i _ => UL - (intOf i).toNat)
              case atStart => exact ⟨0, by omega, rfl, by simp, H6.out.1, H6.out.2.1, H6.out.2.2.1, H6.out.2.2.2⟩
              case round =>
                obtain ⟨q, hq, rfl, hqa, hK, hO, hV, hU⟩ := hrel
                have H7 := Lib.hid (And.intro hK (And.intro hO (And.intro hV hU)))
                have HQA := Lib.hid hqa
                obtain ⟨x0, x1⟩ := hK.box
                clear hqa hK hO hV hU H6
                by_cases hlq : q < UL
                · have hlq2 : q < us.length := by have := HUL.out; omega
                  obtain ⟨bu, ou, hau, hbul, _, hcu⟩ := H7.out.2.2.2.get (Below.refl _ _) hlq2
                  have HAU := Lib.hid hau
                  clear hau
                  obtain rfl := HAU.out
                  have hxb := HUB.out us[q] (List.getElem_mem _)
                  obtain ⟨x, hx⟩ : ∃ x : Nat, us[q] = (x : Int) := ⟨us[q].toNat, by omega⟩
                  rw [hx] at hcu hxb
                  have HX := Lib.hid hx
                  have HQS := Lib.hid (all_tk (p := fun u => !s.mdI u || decide (u ∈ o.take k)) hlq2)
                  clear hx
                  cases hxm : decide ((x : Int) < (s.m.length : Int))
                  · have hmx : s.mdI (x : Int) = false := by
                      cases hy : s.mdI (x : Int)
                      · rfl
                      · have := mdI_bd hy
                        rw [decide_eq_true this.2] at hxm; cases hxm
                    have hqa : (us.take (q + 1)).all (fun u => !s.mdI u || decide (u ∈ o.take k)) = true := by
                      rw [HQS.out, HQA.out, HX.out, hmx]; rfl
                    have HQ2 := Lib.hid hqa
                    have hx3 : ¬ x < s.m.length := by rw [decide_eq_false_iff_not] at hxm; omega
                    have hx4 : decide (x < s.m.length) = false := decide_eq_false hx3
                    clear hmx hqa
                    go_wp2_with fail
                    go_quiet (fail)
                    revert nq
                    intro n1
                    go_wp2_with fail
                    go_roundw
                    case rel => exact ⟨q + 1, by omega, by go_num, HQ2.out, H7.out.1.drewN _, H7.out.2.1.drewN _, H7.out.2.2.1.drewN _, H7.out.2.2.2.drewN _⟩
                    case measure => simp [intOf]; omega
                  · have hxm2 : x < s.m.length := by
                      rw [decide_eq_true_eq] at hxm; omega
                    have hx4 : decide (x < s.m.length) = true := decide_eq_true hxm2
                    have hkc : k ≤ co := by omega
                    have hkci : (k : Int) ≤ (co : Int) := by omega
                    obtain ⟨bx, ox, hax, hbxl, hcx⟩ := md_cell H7.out.1.2 hxm2
                    obtain ⟨rfl, rfl⟩ : bm = bx ∧ om = ox := by injection hax with hax; injection hax with h1 h2; exact ⟨h1, h2⟩
                    clear hax
                    obtain ⟨mx, hmx⟩ : ∃ mx, mx = s.mdI (x : Int) := ⟨_, rfl⟩
                    rw [← hmx] at hcx
                    have HMX := Lib.hid hmx
                    clear hmx
                    cases mx
                    · have hqa : (us.take (q + 1)).all (fun u => !s.mdI u || decide (u ∈ o.take k)) = true := by
                        rw [HQS.out, HQA.out, HX.out, ← HMX.out]; rfl
                      have HQ2 := Lib.hid hqa
                      clear hqa
                      go_wp2_with fail
                      go_quiet (fail)
                      revert nq
                      intro n1
                      go_wp2_with fail
                      go_roundw
                      case rel => exact ⟨q + 1, by omega, by go_num, HQ2.out, H7.out.1.drewN _, H7.out.2.1.drewN _, H7.out.2.2.1.drewN _, H7.out.2.2.2.drewN _⟩
                      case measure => simp [intOf]; omega
                    · obtain ⟨p2, hp2⟩ : ∃ p2, p2 = decide ((x : Int) ∈ o.take k) := ⟨_, rfl⟩
                      have HP2 := Lib.hid hp2
                      clear hp2
                      have hq : ∀ n, Calls Try.prog 59 #[.slice (some ⟨b, ob, none⟩) k co, .int .i64 (x : Int)] (wr.drewN n) fun e w' => e = .returned (.bool p2) ∧ w' = wr.drewN n := fun n => by
                        rw [HP2.out]
                        exact (HHAS.out (x : Int) _ (H7.out.2.1.drewN n)).mono fun e w' h => ⟨h.1, h.2.symm⟩
                      have HQQ := Lib.hid hq
                      clear hq
                      cases p2
                      · go_wp2_with fail
                        go_quiet ((go_at_call 59; exact Calls.quiet_of_same (HQQ.out _)))
                        revert nq
                        intro n1
                        go_wp2_with fail
                        go_ret
                        have hf : ofOne s (vf (baL s l)) (o.take k) (kn : Int) = false := by
                          rw [HONE.out]
                          cases hy : (us.filter s.mdI).all (fun u => decide (u ∈ o.take k))
                          · rfl
                          · rw [List.all_eq_true] at hy
                            have := hy (x : Int) (List.mem_filter.2 ⟨by rw [← HX.out]; exact List.getElem_mem _, HMX.out.symm⟩)
                            rw [← HP2.out] at this
                            cases this
                        exact ⟨ret_bool (HNO.out hf).symm, below_drewN H7.out.1.done _⟩
                      · have hqa : (us.take (q + 1)).all (fun u => !s.mdI u || decide (u ∈ o.take k)) = true := by
                          rw [HQS.out, HQA.out, HX.out, ← HMX.out, ← HP2.out]; rfl
                        have HQ2 := Lib.hid hqa
                        clear hqa
                        go_wp2_with fail
                        go_quiet ((go_at_call 59; exact Calls.quiet_of_same (HQQ.out _)))
                        revert nq
                        intro n1
                        go_wp2_with fail
                        go_roundw
                        case rel => exact ⟨q + 1, by omega, by go_num, HQ2.out, H7.out.1.drewN _, H7.out.2.1.drewN _, H7.out.2.2.1.drewN _, H7.out.2.2.2.drewN _⟩
                        case measure => simp [intOf]; omega
                · have hall : ofTo s (vf (baL s l)) o (k + 1) = true := by
                    have h := HQA.out
                    rw [List.take_of_length_le (by have := HUL.out; omega)] at h
                    rw [HSUC.out, HA.out, ← HKEY.out, HONE.out, Bool.true_and, List.all_eq_true]
                    intro u hu
                    rw [List.mem_filter] at hu
                    rw [List.all_eq_true] at h
                    have := h u hu.1
                    rw [hu.2] at this
                    simpa using this
                  have HALL := Lib.hid hall
                  clear hall
                  go_wp2_with fail
                  go_roundw
                  case rel => exact ⟨k + 1, by omega, by go_num, HALL.out, H7.out.1, H7.out.2.1, H7.out.2.2.1⟩
                  case measure => simp [intOf]; omega
            · go_wp2_with fail
              go_ret
              exact ⟨ret_bool (HNO.out (by unfold ofOne; rw [← HMK.out, ← HP.out]; rfl)).symm, H3.out.1.done⟩
        · have hall : r = true := by
            have := HA.out
            rw [HRR.out, ← HOL.out]
            obtain rfl : k = OL := by omega
            exact this
          have HALL := Lib.hid hall
          clear hall
          go_wp2_with fail
          go_ret
          exact ⟨ret_bool HALL.out.symm, H3.out.1.done⟩
end Go.Proofs.Ytklmpagpkeffjaa

/- the walk of laws.FnExactOrderFits -/
namespace Go.Proofs.Ytklmpagpkeffjaa
open Go.RowKit

set_option maxHeartbeats 4000000 in
theorem walk_exactOrderFits (s : Sh) (l o : List Int) (w : World) (S0 S0' S0'' : Nat → Prop) (a : Option Addr) (c : Nat) (a' : Option Addr) (c' : Nat) (ai : Option Addr) (ci : Nat) (ao : Option Addr) (co : Nat) (h0 : ShAt w S0 s a c a' c') (hl0 : IntsAt w S0' l ai ci) (ho0 : IntsAt w S0'' o ao co) :
    Calls Try.prog 12 #[.agg #[.slice a s.m.length c, .slice a' s.t.length c'], .slice ai l.length ci, .slice ao o.length co] w fun e w' => e = .returned (.bool true) ∧ Below w.heap.size w w' := by
  obtain ⟨S, hSd⟩ : ∃ S : Nat → Prop, S = fun b => S0 b ∧ b < w.heap.size := ⟨_, rfl⟩
  have h : ShAt w S s a c a' c' := by rw [hSd]; exact h0.lim
  obtain ⟨S', hSd'⟩ : ∃ S : Nat → Prop, S = fun b => S0' b ∧ b < w.heap.size := ⟨_, rfl⟩
  have hl : IntsAt w S' l ai ci := by rw [hSd']; exact hl0.lim
  obtain ⟨S'', hSd''⟩ : ∃ S : Nat → Prop, S = fun b => S0'' b ∧ b < w.heap.size := ⟨_, rfl⟩
  have ho : IntsAt w S'' o ao co := by rw [hSd'']; exact ho0.lim
  have K0 := Lib.hid (Ks.start (ty := 50) h)
  have L0 := Lib.hid (hl.alloc (.cells #[.slice a s.m.length c, .slice a' s.t.length c'] 50))
  have O0 := Lib.hid (ho.alloc (.cells #[.slice a s.m.length c, .slice a' s.t.length c'] 50))
  have hlm : l.length ≤ 9223372036854775807 := by have := hl.1; have := hl.2.1; omega
  have hom : o.length ≤ 9223372036854775807 := by have := ho.1; have := ho.2.1; omega
  clear h h0 hSd hl hl0 hSd' ho ho0 hSd''
  by_cases hbig : 1048576 < l.length
  · go_enter Try.func12, Try.ntmps12
    go_wp2_with fail
    go_ret
    exact ⟨rfl, K0.out.done⟩
  have hln : l.length ≤ 1048576 := by omega
  by_cases hbig2 : 1048576 < o.length
  · go_enter Try.func12, Try.ntmps12
    go_wp2_with fail
    go_ret
    exact ⟨rfl, K0.out.done⟩
  have hon : o.length ≤ 1048576 := by omega
  by_cases hle : s.m.length + nodesL s.t ≤ 1048576
  · have hz : szSh s 1048576 = ((1048576 - s.m.length - nodesL s.t : Nat) : Int) := by unfold szSh; rw [if_pos hle]; omega
    have HZ := Lib.hid hz
    have hlmm : s.m.length ≤ 1048576 := by omega
    have HLM := Lib.hid hlmm
    have HL := Lib.hid (show nodesL s.t ≤ 1048576 by omega)
    obtain ⟨b, hb⟩ : ∃ b, b = ofB s l o := ⟨_, rfl⟩
    have HBB := Lib.hid hb
    have hnb : (b != b) = false := by simp
    have HNE := Lib.hid hnb
    clear hz hle hlmm hb hnb
    obtain ⟨x0, x1⟩ := K0.out.box
    go_enter Try.func12, Try.ntmps12
    go_wp2_with fail
    refine (szSheet_any _ S s a c a' c' 1048576 K0.out.2 (by omega)).mono ?_
    rintro e w1 ⟨rfl, hb⟩
    rw [HZ.out]
    have K1 := Lib.hid (K0.out.step hb)
    have L1 := Lib.hid (L0.out.below hb)
    have O1 := Lib.hid (O0.out.below hb)
    clear hb HZ K0 L0 O0 x0 x1
    obtain ⟨x0, x1⟩ := K1.out.box
    go_wp2_with fail
    refine (copySh_any _ S s a c a' c' K1.out.2 HLM.out HL.out).mono ?_
    rintro e w2 ⟨v2, a2', c2', F2, rfl, hsm, hb⟩
    obtain ⟨a2, c2, rfl, hat⟩ := hsm.at
    have K2 := Lib.hid (K1.out.step hb)
    have L2 := Lib.hid (L1.out.below hb)
    have O2 := Lib.hid (O1.out.below hb)
    have HT2 := Lib.hid hat
    clear hb hat hsm x0 x1 K1 L1 O1
    go_wp2_with fail
    refine (copyI_any w2 S' l ai ci L2.out hln).mono ?_
    rintro e w3 ⟨a3, c3, rfl, hi3, hb⟩
    have K3 := Lib.hid (K2.out.step hb)
    have L3 := Lib.hid (L2.out.below hb)
    have O3 := Lib.hid (O2.out.below hb)
    have HT3 := Lib.hid (HT2.out.below hb)
    have HI3 := Lib.hid hi3
    clear hb hi3 K2 L2 HT2 O2
    go_wp2_with fail
    refine (copyI_any w3 S'' o ao co O3.out hon).mono ?_
    rintro e w3b ⟨a3b, c3b, rfl, hi3b, hb⟩
    have K3b := Lib.hid (K3.out.step hb)
    have L3b := Lib.hid (L3.out.below hb)
    have O3b := Lib.hid (O3.out.below hb)
    have HT3b := Lib.hid (HT3.out.below hb)
    have HI3b := Lib.hid (HI3.out.below hb)
    have HJ3b := Lib.hid hi3b
    clear hb hi3b K3 L3 HT3 O3 HI3
    go_wp2_with fail
    refine (specFits_any s l o _ _ _ _ a2 c2 a2' c2' a3 c3 a3b c3b HT3b.out HL.out HI3b.out HJ3b.out).mono ?_
    rintro e w4 ⟨rfl, hb⟩
    rw [← HBB.out]
    have K4 := Lib.hid (K3b.out.step hb)
    have L4 := Lib.hid (L3b.out.below hb)
    have O4 := Lib.hid (O3b.out.below hb)
    clear hb K3b L3b O3b HT3b HI3b HJ3b
    obtain ⟨x0, x1⟩ := K4.out.box
    go_wp2_with fail
    refine (copySh_any _ S s a c a' c' K4.out.2 HLM.out HL.out).mono ?_
    rintro e w5 ⟨v5, a5', c5', F5, rfl, hsm, hb⟩
    obtain ⟨a5, c5, rfl, hat⟩ := hsm.at
    have K5 := Lib.hid ((K4.out.step hb).alloc (.cells #[.slice a5 s.m.length c5, .slice a5' s.t.length c5'] 26))
    have L5 := Lib.hid ((L4.out.below hb).alloc (.cells #[.slice a5 s.m.length c5, .slice a5' s.t.length c5'] 26))
    have O5 := Lib.hid ((O4.out.below hb).alloc (.cells #[.slice a5 s.m.length c5, .slice a5' s.t.length c5'] 26))
    have HT5 := Lib.hid (hat.alloc (.cells #[.slice a5 s.m.length c5, .slice a5' s.t.length c5'] 26))
    have HX5 := Lib.hid (Blk.new w5 26 #[.slice a5 s.m.length c5, .slice a5' s.t.length c5'])
    clear hb hat hsm x0 x1 K4 L4 O4
    go_wp2_with fail
    refine (copyI_any _ S' l ai ci L5.out hln).mono ?_
    rintro e w6 ⟨a6, c6, rfl, hi6, hb⟩
    have hs6 := hb.size
    simp only [World.size_alloc] at hs6
    have K6 := Lib.hid (K5.out.step hb)
    have L6 := Lib.hid (L5.out.below hb)
    have O6 := Lib.hid (O5.out.below hb)
    have HT6 := Lib.hid (HT5.out.below hb)
    have hx6 := HX5.out.below hb (by simp)
    have HI6 := Lib.hid hi6
    have HX6 := Lib.hid hx6
    clear hb hi6 hx6 K5 L5 O5 HT5 HX5
    go_wp2_with fail
    refine (copyI_any _ S'' o ao co O6.out hon).mono ?_
    rintro e w6b ⟨a6b, c6b, rfl, hi6b, hb⟩
    have hs6b := hb.size
    have K6b := Lib.hid (K6.out.step hb)
    have L6b := Lib.hid (L6.out.below hb)
    have O6b := Lib.hid (O6.out.below hb)
    have HT6b := Lib.hid (HT6.out.below hb)
    have hx6b := HX6.out.below hb (by omega)
    have HI6b := Lib.hid (HI6.out.below hb)
    have HJ6b := Lib.hid hi6b
    have HX6b := Lib.hid hx6b
    obtain ⟨y0, y1, _, _⟩ := hx6b.two
    clear hb hi6b hx6b K6 L6 O6 HT6 HX6 HI6
    go_wp2_with fail
    refine (implFits_any s l o w6b _ _ _ a5 c5 a5' c5' a6 c6 a6b c6b HT6b.out HI6b.out HJ6b.out).mono ?_
    rintro e w7 ⟨rfl, hb⟩
    rw [← HBB.out]
    have hs7 := hb.size
    have K7 := Lib.hid (K6b.out.step hb)
    have L7 := Lib.hid (L6b.out.below hb)
    have O7 := Lib.hid (O6b.out.below hb)
    have HT7 := Lib.hid (HT6b.out.below hb)
    have hx7 := HX6b.out.below hb (by omega)
    have HI7 := Lib.hid (HI6b.out.below hb)
    have HJ7 := Lib.hid (HJ6b.out.below hb)
    have HX7 := Lib.hid hx7
    clear hb y0 y1 K6b L6b O6b HT6b HX6b HI6b HJ6b
    obtain ⟨y0, y1, _, _⟩ := hx7.two
    obtain ⟨x0, x1⟩ := K7.out.box
    have hnb := HNE.out
    clear hx7
    go_wp2_with fail
    clear hnb HNE
    go_region_with (first | (go_at_call 38; refine (copySh_any _ S s a c a' c' ?_ HLM.out HL.out).mono ?_; exact K7.out.drew.2; rintro e w8 ⟨v8, a8', c8', F8, rfl, hsm8, hb8⟩; obtain ⟨a8, c8, rfl, hat8⟩ := hsm8.at; obtain ⟨z0, z1, _, _⟩ := (HX7.out.drew.below hb8 (by simp; omega)).two) | (go_at_call 41; go_must (refine (eqSheet_any _ _ _ s a5 c5 a5' c5' a8 c8 a8' c8' (HT7.out.drew.below hb8) hat8).mono ?_; rintro e w9 ⟨rfl, hb9⟩)))
    all_goals
      have K9 := Lib.hid ((K7.out.drew.step hb8).step hb9)
      have L9 := Lib.hid ((L7.out.drew.below hb8).below hb9)
      have O9 := Lib.hid ((O7.out.drew.below hb8).below hb9)
      have HI9 := Lib.hid ((HI7.out.drew.below hb8).below hb9)
      have HJ9 := Lib.hid ((HJ7.out.drew.below hb8).below hb9)
      clear z0 z1 hat8 hb8 hb9 x0 x1 y0 y1 hsm8
      go_wp2_with fail
      refine (copyI_any _ S' l ai ci L9.out hln).mono ?_
      rintro e w10 ⟨a10, c10, rfl, hi10, hb⟩
      have K10 := Lib.hid (K9.out.step hb)
      have O10 := Lib.hid (O9.out.below hb)
      have HI10 := Lib.hid (HI9.out.below hb)
      have HJ10 := Lib.hid (HJ9.out.below hb)
      have HC10 := Lib.hid hi10
      clear hb hi10
      go_wp2_with fail
      refine (eqInts_any _ _ _ l a6 a10 c6 c10 HI10.out HC10.out).mono ?_
      rintro e w11 ⟨rfl, hb⟩
      have K11 := Lib.hid (K10.out.step hb)
      have O11 := Lib.hid (O10.out.below hb)
      have HJ11 := Lib.hid (HJ10.out.below hb)
      clear hb
      go_wp2_with fail
      refine (copyI_any _ S'' o ao co O11.out hon).mono ?_
      rintro e w12 ⟨a12, c12, rfl, hi12, hb⟩
      have K12 := Lib.hid (K11.out.step hb)
      have HJ12 := Lib.hid (HJ11.out.below hb)
      have HC12 := Lib.hid hi12
      clear hb hi12
      go_wp2_with fail
      refine (eqInts_any _ _ _ o a6b a12 c6b c12 HJ12.out HC12.out).mono ?_
      rintro e w13 ⟨rfl, hb⟩
      have K13 := Lib.hid (K12.out.step hb)
      clear hb
      go_wp2_with fail
      go_ret
      exact ⟨rfl, K13.out.done⟩
  · have hz : szSh s 1048576 = -1 := by unfold szSh; rw [if_neg (by omega)]
    have HZ := Lib.hid hz
    clear hz hle
    obtain ⟨x0, x1⟩ := K0.out.box
    go_enter Try.func12, Try.ntmps12
    go_wp2_with fail
    refine (szSheet_any _ S s a c a' c' 1048576 K0.out.2 (by omega)).mono ?_
    rintro e w1 ⟨rfl, hb⟩
    rw [HZ.out]
    have K1 := Lib.hid (K0.out.step hb)
    clear hb HZ K0
    go_wp2_with fail
    go_ret
    exact ⟨rfl, K1.out.done⟩
end Go.Proofs.Ytklmpagpkeffjaa

/- A sheet that came in as an argument: its reading opened to a sheet -/
namespace Go.Proofs.Ytklmpagpkeffjaa
open Go.ChangeShapes Go.WideShapes Go.ChangeAt Go.RowKit Go.Joins

theorem cellsIntX : Try.prog.cellsOf 3 = 1 := by kernel_rfl
theorem cellsTaskX : Try.prog.cellsOf 137 = 3 := by kernel_rfl
theorem cellsTaskSX : Try.prog.cellsOf 48 = 1 := by kernel_rfl
theorem cellsBoolX : Try.prog.cellsOf 4 = 1 := by kernel_rfl
theorem cellsSheetX : Try.prog.cellsOf 50 = 2 := by kernel_rfl

theorem spot_none {w : World} {a : Addr} {v : Value} (h : w.cell? (a.add 0) = some v) : a.spot = none := by
  obtain ⟨ab, ao, asp⟩ := a
  cases asp with
  | none => rfl
  | some y =>
    exfalso
    simp [Addr.add, World.cell?] at h
    split at h <;> simp at h

section
variable {H : Type} {enc : TypeId × Value → H} {P : Program} {w : World} {base : Nat} {held : Bool} {tS tE : TypeId}

theorem open_bl {fuel : Nat} {v : Value} {x : DataW H × List MemPlace} (hS : P.underlying tS = some (.slice tE)) (hE : P.underlying tE = some .bool) (hC : P.cellsOf tE = 1)
    (h : DataW.trod enc P w base (fun _ => true) held fuel tS [v] = some x) : ∃ (l : List Bool) (a : Option Addr) (c : Nat), v = .slice a l.length c ∧ ElAt Value.bool w (fun _ => True) l a c := by
  rcases Go.Deep.open_bools hS hE hC h with ⟨hv, _⟩ | ⟨a, len, cap, B, hv, _, hl, hm, _, hc⟩
  · simp only [List.cons.injEq, and_true] at hv
    exact ⟨[], none, 0, by simpa using hv, ElAt.nil (by omega)⟩
  · simp only [List.cons.injEq, and_true] at hv
    have hm' : cap ≤ 9223372036854775807 := hm
    refine ⟨(List.range len).map B, some a, cap, by simpa using hv, by simpa using hl, hm', ?_⟩
    by_cases h0 : len = 0
    · left; simp [h0]
    right
    have hs := spot_none (hc 0 (by omega))
    obtain ⟨ab, ao, asp⟩ := a
    simp only at hs
    subst hs
    refine ⟨ab, ao, rfl, trivial, fun i hi => ?_⟩
    simp only [List.length_map, List.length_range] at hi
    have := hc i (by omega)
    have ea : Addr.add ⟨ab, ao, none⟩ i = ⟨ab, ao + i, none⟩ := by unfold Addr.add; split <;> simp_all
    rw [ea] at this
    simpa using this
end

set_option maxRecDepth 100000 in
theorem open_sh {H : Type} {enc : TypeId × Value → H} {w : World} {held : Bool} {r : Reach} {b0 : Nat} {v : Value} {d : DataW H} {p : List MemPlace}
    (hv : Value.okWide Try.prog w r b0 50 v) (h : DataW.Trod enc Try.prog w 0 (fun _ => true) held 50 v d p) :
    ∃ (s : Sh) (a : Option Addr) (c : Nat) (a' : Option Addr) (c' : Nat), v = .agg #[.slice a s.m.length c, .slice a' s.t.length c'] ∧ ShAt w (fun _ => True) s a c a' c' := by
  obtain ⟨v0, v1, y0, y1, n, rfl, _, _, h0, h1⟩ := open_agg2 Try.underlying50 (by kernel_rfl) cellsSheetX hv h
  obtain ⟨l, a, c, rfl, hb⟩ := open_bl Try.underlying23 Try.underlying4 cellsBoolX h0
  obtain ⟨ps, a', c', rfl, hat⟩ := open_tasks Try.underlying3 cellsIntX Try.underlying48 cellsTaskSX Try.underlying137 cellsTaskX ⟨rfl, rfl⟩ ⟨rfl, rfl⟩ ⟨rfl, rfl⟩ _ _ _ h1
  exact ⟨⟨l, ps⟩, a, c, a', c', rfl, hb, hat⟩
end Go.Proofs.Ytklmpagpkeffjaa

/- For every sheet and every two lists of numbers (whatever memory they lie in) the law FnExactOrderFits answers true: the function answers as its model, and leaves its arguments alone. No condition. -/
namespace Go.Proofs.Ytklmpagpkeffjaa
open Go.ChangeShapes Go.WideShapes Go.ChangeAt Go.RowKit Go.Joins

set_option maxRecDepth 100000 in
theorem exactOrderFits_lifted (os : Os) (started : os.Started) (H : Type) (enc : TypeId × Value → H) :
    ReturnsInHanded {} Try.checked os 12 .any (Rows.fnExactOrderFitsSpec.pre6 enc Try.prog Try.f12 Rows.fnExactOrderFitsRow.domain false) (Rows.fnExactOrderFitsSpec.post enc Try.prog Try.f12 false true false false) := by
  refine returnsInHanded_of_change (C := Try.checked) own started (by kernel_rfl) Try.func12
    (ChangeSpec.witness6 (enc := enc) (C := Try.checked) false ⟨#[], #[.agg #[.slice none 0 0, .slice none 0 0], .slice none 0 0, .slice none 0 0], []⟩ 8 (by kernel_rfl) (by kernel_rfl) (by kernel_rfl) (by kernel_rfl)) ?_
  intro W base args ds gs before hval0 hW _ _
  have hval : ∀ (j : Nat) t v, Try.f12.params[j]? = some t → args[j]? = some v → Value.okWide Try.prog W .any base t v := hval0
  have hW' := hW
  obtain ⟨p, q, hA0, hV, rfl, _, _⟩ := hW
  have hA : DataW.TrodAll enc Try.prog W 0 (fun _ => true) true Try.f12.params.toList args.toList ds p := hA0
  rw [Try.params12] at hA hval
  obtain ⟨v0, v1, v2, d0, d1, d2, p0, p1, p2, rfl, rfl, rfl, h0, h1, h2⟩ := trodAll_three hA
  obtain ⟨rfl, rfl⟩ := trodVars_none hV
  obtain ⟨sh, a, c, a', c', rfl, hat⟩ := open_sh (hval 0 50 v0 rfl rfl) h0
  obtain ⟨ai, lv, ci, rfl, hl⟩ := open_nums Try.underlying30 Try.underlying3 cellsIntX (okWide_slice Try.underlying30 (hval 1 30 v1 rfl rfl)) h1
  obtain ⟨ao, ov, co, rfl, ho⟩ := open_nums Try.underlying30 Try.underlying3 cellsIntX (okWide_slice Try.underlying30 (hval 2 30 v2 rfl rfl)) h2
  refine (walk_exactOrderFits sh lv ov W _ _ _ a c a' c' ai ci ao co hat hl ho).mono fun e W' ⟨he, hb⟩ => ?_
  subst he
  exact ⟨_, rfl, law_post laidOut rfl rfl Try.underlying4 (by intro t ht; rw [Try.params12] at ht; simp at ht; rcases ht with rfl | rfl | rfl <;> exact ⟨by kernel_rfl, of_decide_eq_true (by kernel_rfl)⟩) rfl rfl rfl hW' hb⟩

theorem exactOrderFits_holds : Rows.FnExactOrderFitsSaid :=
  OpenClaim.holds_of_wide 12 Try.f12 rfl rfl rfl rfl rfl rfl rfl ⟨rfl, rfl, rfl, rfl, rfl⟩ rfl rfl rfl rfl rfl (by kernel_rfl) Try.func12 (by kernel_rfl)
    (of_decide_eq_true (by kernel_rfl)) (by unfold Func.isWrapper; first | (rw [if_pos (by decide +kernel)]; kernel_rfl) | (rw [if_neg (by decide +kernel)]; exact ⟨rfl, rfl⟩))
    (fun os started H enc _ => exactOrderFits_lifted os started H enc)
#print axioms exactOrderFits_holds
end Go.Proofs.Ytklmpagpkeffjaa
