/- several texts in one (made by bundle.py): Open, RowKit, Own, Draw1, Draw2, Draw3, Draw4, OpenCode, Low, Lower, DrawV, ShD, ShL, SheetD, Inputs, StepN, KeysD, DrawOrd, UsesS, EndsC, OrdJ, AllI -/
import Derived.Test.YtklmpagpkeffjaaRows
import Derived.Test.YtklmpagpkeffjaaTree
import Derived.ProofKit
import Derived.Lib.SmallJoins
import Derived.Deep.Slices
import Derived.Test.YtklmpagpkeffjaaBlk
import Derived.Laws.AppendOwn
import Derived.OwnWalk
import Derived.ArgAppend
import Derived.Test.YtklmpagpkeffjaaOk
import Derived.Test.YtklmpagpkeffjaaCopy
import Derived.Deep.Cut
import Derived.Test.YtklmpagpkeffjaaReck
import Derived.Deep.RegionWith
import Derived.Test.YtklmpagpkeffjaaRow
import Derived.Test.YtklmpagpkeffjaaSheet
import Derived.Test.YtklmpagpkeffjaaEl
import Derived.Deep.RegionLaw
import Derived.Test.YtklmpagpkeffjaaSameI
import Derived.Test.YtklmpagpkeffjaaEnds
import Derived.Test.YtklmpagpkeffjaaFinJ
import Derived.Test.YtklmpagpkeffjaaBuildI
import Derived.Test.YtklmpagpkeffjaaAllS
import Derived.Test.YtklmpagpkeffjaaFromS
/- A task that came in as an argument: its reading opened to a tree -/
namespace Go.Proofs.Ytklmpagpkeffjaa
open Go.ChangeShapes Go.WideShapes Go.ChangeAt Go.RowKit Go.Joins

theorem i64ok_of {n : Int} (h : (Lit.int .i64 n).wf = true) : i64ok n := by
  have := WalkArith.wf_i64 (n := n)
  unfold i64ok
  simp [Lit.wf] at h
  exact ⟨h.1, by omega⟩

theorem AtL.of_each {w : World} {S : Nat → Prop} {b o : Nat} : ∀ n, (∀ i, i < n → ∃ t, AtC w S t b (o + 3 * i)) → ∃ ps : List T, ps.length = n ∧ AtL w S ps b o
  | 0, _ => ⟨[], rfl, by simp [AtL]⟩
  | n + 1, h => by
    obtain ⟨ps, hl, hat⟩ := AtL.of_each n (fun i hi => h i (by omega))
    obtain ⟨t, ht⟩ := h n (by omega)
    exact ⟨ps ++ [t], by simp [hl], AtL.snoc hat (by rw [hl]; exact ht)⟩

section
variable {H : Type} {enc : TypeId × Value → H} {P : Program} {w : World} {base : Nat} {spare : Nat → Bool} {held : Bool} {tS tE tI : TypeId} {f0 f1 f2 : Field}

theorem open_tasks (hI : P.underlying tI = some (.int .i64)) (hcI : P.cellsOf tI = 1) (hS : P.underlying tS = some (.slice tE)) (hcS : P.cellsOf tS = 1) (hE : P.underlying tE = some (.struct #[f0, f1, f2])) (hC : P.cellsOf tE = 3)
    (h0 : f0.type = tI ∧ f0.offset = 0) (h1 : f1.type = tI ∧ f1.offset = 1) (h2 : f2.type = tS ∧ f2.offset = 2) :
    ∀ (fuel : Nat) (v : Value) (x : DataW H × List MemPlace), DataW.trod enc P w base spare held fuel tS [v] = some x → ∃ ps a c, v = .slice a (List.length ps) c ∧ AtS w (fun _ => True) ps a c := by
  intro fuel
  induction fuel using Nat.strongRecOn with
  | _ fuel ih =>
  intro v x h
  rcases DataW.trod_slice hS h with ⟨hv, _⟩ | ⟨a, len, cap, elems, rest, n, hf, hv, _, _, hl, hm, hlen, hel, _, _⟩
  · simp only [List.cons.injEq, and_true] at hv
    exact ⟨[], none, 0, by simpa using hv, by simp [AtS]⟩
  simp only [List.cons.injEq, and_true] at hv
  subst hv
  have hm' : cap ≤ 9223372036854775807 := hm
  by_cases hz : len = 0
  · subst hz
    exact ⟨[], some a, cap, rfl, by simp, hm', .inl rfl⟩
  have each : ∀ i, i < len → ∃ k m ps a' c', i64ok k ∧ i64ok m ∧ w.cell? (a.add (i * 3)) = some (.int .i64 k) ∧ w.cell? (a.add (i * 3 + 1)) = some (.int .i64 m) ∧ w.cell? (a.add (i * 3 + 2)) = some (.slice a' (List.length ps) c') ∧ AtS w (fun _ => True) ps a' c' := by
    intro i hi
    have he := hel i hi
    rw [hC] at he
    have hs : elems[i]? = some (elems[i]'(by omega)) := List.getElem?_eq_getElem (by omega)
    rw [hs, Option.bind_eq_some_iff] at he
    obtain ⟨cs, hcs, htr⟩ := he
    obtain ⟨_, hcl, hat⟩ := World.cells?_some hcs
    obtain ⟨c0, c1, c2, rfl⟩ : ∃ c0 c1 c2, cs = [c0, c1, c2] := by
      match cs, hcl with
      | [c0, c1, c2], _ => exact ⟨c0, c1, c2, rfl⟩
    obtain ⟨ys, n', hn', _, _, hyl, hfd⟩ := DataW.trod_struct hE htr
    have y0 := hfd 0 f0 rfl
    have y1 := hfd 1 f1 rfl
    have y2 := hfd 2 f2 rfl
    rw [h0.1, h0.2, hcI, List.getElem?_eq_getElem (by simp at hyl; omega)] at y0
    rw [h1.1, h1.2, hcI, List.getElem?_eq_getElem (by simp at hyl; omega)] at y1
    rw [h2.1, h2.2, hcS, List.getElem?_eq_getElem (by simp at hyl; omega)] at y2
    obtain ⟨k, e0, _, wk⟩ := DataW.trod_int hI y0
    obtain ⟨m, e1, _, wm⟩ := DataW.trod_int hI y1
    obtain ⟨ps, a', c', e2, hps⟩ := ih n' (by omega) c2 _ y2
    simp at e0 e1
    subst e0 e1 e2
    have g0 := hat 0 (by omega)
    have g1 := hat 1 (by omega)
    have g2 := hat 2 (by omega)
    rw [Go.Deep.add_add] at g0 g1 g2
    exact ⟨k, m, ps, a', c', i64ok_of wk, i64ok_of wm, g0, g1, g2, hps⟩
  have hsp : a.spot = none := by
    obtain ⟨_, _, _, _, _, _, _, g0, _⟩ := each 0 (by omega)
    obtain ⟨ab, ao, asp⟩ := a
    cases asp with
    | none => rfl
    | some y =>
      exfalso
      simp [Addr.add, World.cell?] at g0
      split at g0 <;> simp at g0
  obtain ⟨ab, ao, asp⟩ := a
  simp only at hsp
  subst hsp
  obtain ⟨ps, hpl, hat⟩ := AtL.of_each (w := w) (S := fun _ => True) (b := ab) (o := ao) len (fun i hi => by
    obtain ⟨k, m, ps, a', c', ok1, ok2, g0, g1, g2, hps⟩ := each i hi
    have ea : ∀ j, Addr.add ⟨ab, ao, none⟩ j = ⟨ab, ao + j, none⟩ := by intro j; unfold Addr.add; split <;> simp_all
    rw [ea] at g0 g1 g2
    refine ⟨.mk k m ps, AtC.mk ok1 ok2 ?_ ?_ ?_ hps⟩
    · rw [show ao + 3 * i = ao + i * 3 by omega]; exact g0
    · rw [show ao + 3 * i + 1 = ao + (i * 3 + 1) by omega]; exact g1
    · rw [show ao + 3 * i + 2 = ao + (i * 3 + 2) by omega]; exact g2)
  exact ⟨ps, _, cap, by rw [hpl], by rw [hpl]; exact hl, hm', .inr ⟨ab, ao, rfl, trivial, hat⟩⟩
end

end Go.Proofs.Ytklmpagpkeffjaa

/- The road from a law's walk to its row: one lemma for every law of this seat. -/
namespace Go.Proofs.Ytklmpagpkeffjaa
open Go.ChangeShapes Go.WideShapes Go.ChangeAt Go.RowKit

theorem own : ownKnob Try.prog.godebug = none := by kernel_rfl
theorem laidOut : laidOutB Try.prog = true := by kernel_rfl

theorem trodAll_stays {H : Type} {enc : TypeId × Value → H} {P : Program} (hl : laidOutB P = true) {W W' : World} {sp' : Nat → Bool} : ∀ (ts : List TypeId) (vs : List Value) (ds : List (DataW H)) (ps : List MemPlace),
    (∀ t ∈ ts, P.readableRec t = true ∧ t < P.types.size) → DataW.TrodAll enc P W 0 (fun _ => true) true ts vs ds ps → (∀ p ∈ ps, W.sameAt W' p) → (∀ p ∈ ps, sp' p.block = true) → DataW.TrodAll enc P W' 0 sp' true ts vs ds ps
  | [], [], [], _, _, h, _, _ => h
  | t :: ts, v :: vs, d :: ds, ps, ht, h, hs, hp => by
    obtain ⟨p, q, h1, h2, rfl⟩ := h
    exact ⟨p, q, WideElems.Trod_stays hl (ht t (by simp)).1 (ht t (by simp)).2 h1 (fun x hx => hs x (by simp [hx])) (fun x hx => hp x (by simp [hx])),
      trodAll_stays hl ts vs ds q (fun u hu => ht u (by simp [hu])) h2 (fun x hx => hs x (by simp [hx])) (fun x hx => hp x (by simp [hx])), rfl⟩
  | [], _ :: _, _, _, _, h, _, _ => by simp [DataW.TrodAll] at h
  | [], [], _ :: _, _, _, h, _, _ => by simp [DataW.TrodAll] at h
  | _ :: _, [], _, _, _, h, _, _ => by simp [DataW.TrodAll] at h
  | _ :: _, _ :: _, [], _, _, h, _, _ => by simp [DataW.TrodAll] at h

/-- BEHIND THE WALK: the law returned true and made new memory alone. -/
theorem law_post {H : Type} {enc : TypeId × Value → H} {P : Program} (hl : laidOutB P = true) {f : Func} {s : ChangeSpec} {W W' : World} {args : Array Value} {ds : List (DataW H)} {before : List MemPlace} {tb : TypeId}
    (hsv : s.vars = []) (hrt : f.resultTypes = #[tb]) (htb : P.underlying tb = some .bool) (hts : ∀ t ∈ f.params.toList, P.readableRec t = true ∧ t < P.types.size)
    (hres : (s.fn H (ds ++ [])).results = [.lit (.bool true)]) (hargs : (s.fn H (ds ++ [])).args = ds) (hvs : (s.fn H (ds ++ [])).vars = [])
    (hW : DataW.Whole enc P f.params.toList s.vars false W args.toList ds [] before) (hb : Below W.heap.size W W') :
    s.post enc P f false true false false W args (.bool true) W' := by
  have hlt : ∀ p ∈ before, p.block < W.heap.size := fun p hp => hW.lt p hp
  have hold : ∀ p ∈ before, (fun b => decide (b < W.heap.size)) p.block = true := fun p hp => by simpa using hlt p hp
  have hW0 := hW
  obtain ⟨p, q, hA, hV, rfl, _, _⟩ := hW
  rw [hsv] at hV
  obtain rfl : q = [] := by simpa [DataW.TrodVars] using hV
  have har : ∀ sp : Nat → Bool, (∀ x ∈ p ++ [], sp x.block = true) → DataW.TrodAll enc P W' 0 sp true f.params.toList args.toList ds p := fun sp hsp =>
    trodAll_stays hl _ _ _ _ hts hA (fun x hx => hb.same (hlt x (by simp [hx]))) (fun x hx => hsp x (by simp [hx]))
  have hrs : ∀ (b : Nat) (sp : Nat → Bool) (hd : Bool), DataW.TrodAll enc P W' b sp hd f.resultTypes.toList ((Value.bool true).resultList f.resultTypes.size) (s.fn H (ds ++ [])).results [] := by
    intro b sp hd
    rw [hres, hrt]
    exact trodAll_mk1 (shut_bool htb _)
  refine ⟨ds, [], _, [], p, [], hW0, hrs _ _ _, by rw [hargs]; exact har _ hold, by rw [hsv, hvs]; rfl, World.keptBut_mono (fun p hp => ⟨hp, ?_⟩) (hb.frame (· ∈ p ++ [])), fun h => by cases h⟩
  rw [List.mem_append] at hp
  exact Or.inr hp

end Go.Proofs.Ytklmpagpkeffjaa

/- A task that lies in memory of the call's own: every slice in a block of its own -/
namespace Go.Proofs.Ytklmpagpkeffjaa
open Go.RowKit

mutual
def OwC (w : World) (e : TypeId) : (Nat → Prop) → T → Nat → Nat → Prop
  | F, .mk k n ps, b, o => i64ok k ∧ i64ok n ∧ w.cell? ⟨b, o, none⟩ = some (.int .i64 k) ∧ w.cell? ⟨b, o + 1, none⟩ = some (.int .i64 n) ∧
      ∃ a c, w.cell? ⟨b, o + 2, none⟩ = some (.slice a ps.length c) ∧ ps.length ≤ c ∧ c ≤ 9223372036854775807 ∧
        ((ps = [] ∧ a = none ∧ c = 0) ∨ ∃ g cs, a = some ⟨g, 0, none⟩ ∧ F g ∧ Blk w g e cs ∧ cs.size = 3 * c ∧ OwL w e (fun b => F b ∧ b ≠ g) ps g 0)
def OwL (w : World) (e : TypeId) : (Nat → Prop) → List T → Nat → Nat → Prop
  | _, [], _, _ => True
  | F, t :: r, b, o => ∃ F1 F2 : Nat → Prop, (∀ b, F1 b → F b) ∧ (∀ b, F2 b → F b) ∧ (∀ b, F1 b → ¬ F2 b) ∧ OwC w e F1 t b o ∧ OwL w e F2 r b (o + 3)
end

/-- The slice value '.slice a ps.length c' has the elements ps, its block and theirs meet F, each its own. -/
def OwS (w : World) (e : TypeId) (F : Nat → Prop) (ps : List T) (a : Option Addr) (c : Nat) : Prop :=
  ps.length ≤ c ∧ c ≤ 9223372036854775807 ∧ ((ps = [] ∧ a = none ∧ c = 0) ∨ ∃ g cs, a = some ⟨g, 0, none⟩ ∧ F g ∧ Blk w g e cs ∧ cs.size = 3 * c ∧ OwL w e (fun b => F b ∧ b ≠ g) ps g 0)

theorem OwC.iff {w : World} {e : TypeId} {F : Nat → Prop} {t : T} {b o : Nat} : OwC w e F t b o ↔ i64ok t.k ∧ i64ok t.n ∧ w.cell? ⟨b, o, none⟩ = some (.int .i64 t.k) ∧ w.cell? ⟨b, o + 1, none⟩ = some (.int .i64 t.n) ∧
      ∃ a c, w.cell? ⟨b, o + 2, none⟩ = some (.slice a t.ps.length c) ∧ OwS w e F t.ps a c := by
  cases t; simp only [OwC, OwS, T.k, T.n, T.ps]

mutual
theorem OwC.at {w : World} {e : TypeId} : ∀ {F : Nat → Prop} {t : T} {b o : Nat}, OwC w e F t b o → AtC w F t b o
  | F, .mk k n ps, b, o, h => by
    simp only [OwC] at h
    simp only [AtC]
    obtain ⟨h1, h2, h3, h4, a, c, h5, h6, h7, h8⟩ := h
    refine ⟨h1, h2, h3, h4, a, c, h5, h6, h7, ?_⟩
    rcases h8 with ⟨h8, _, _⟩ | ⟨g, cs, ha, hF, _, _, hl⟩
    · exact .inl h8
    · exact .inr ⟨g, 0, ha, hF, AtL.keepC (fun _ h => h.1) (fun _ _ _ => rfl) _ _ _ (fun _ _ _ => rfl) (OwL.at hl)⟩
theorem OwL.at {w : World} {e : TypeId} : ∀ {F : Nat → Prop} {ps : List T} {b o : Nat}, OwL w e F ps b o → AtL w F ps b o
  | _, [], _, _, _ => by simp [AtL]
  | F, t :: r, b, o, h => by
    simp only [OwL] at h
    simp only [AtL]
    obtain ⟨F1, F2, h1, h2, _, hc, hl⟩ := h
    exact ⟨AtC.keepC h1 (fun _ _ _ => rfl) _ _ _ (fun _ _ _ => rfl) (OwC.at hc), AtL.keepC h2 (fun _ _ _ => rfl) _ _ _ (fun _ _ _ => rfl) (OwL.at hl)⟩
end
theorem OwS.at {w : World} {e : TypeId} {F : Nat → Prop} {ps : List T} {a : Option Addr} {c : Nat} (h : OwS w e F ps a c) : AtS w F ps a c := by
  obtain ⟨h1, h2, h3⟩ := h
  refine ⟨h1, h2, ?_⟩
  rcases h3 with ⟨h3, _, _⟩ | ⟨g, cs, ha, hF, _, _, hl⟩
  · exact .inl h3
  · exact .inr ⟨g, 0, ha, hF, AtL.keepC (fun _ h => h.1) (fun _ _ _ => rfl) _ _ _ (fun _ _ _ => rfl) (OwL.at hl)⟩

mutual
theorem OwC.keepC {w w' : World} {e : TypeId} : ∀ {F F' : Nat → Prop} {t : T} {b o : Nat}, (∀ b, F b → F' b) → (∀ b, F b → b < w.heap.size → w'.heap[b]? = w.heap[b]?) →
    (∀ j, o ≤ j → j < o + 3 → w'.cell? ⟨b, j, none⟩ = w.cell? ⟨b, j, none⟩) → OwC w e F t b o → OwC w' e F' t b o
  | F, F', .mk k n ps, b, o, hF, hk, hc, h => by
    simp only [OwC] at h ⊢
    obtain ⟨h1, h2, h3, h4, a, c, h5, h6, h7, h8⟩ := h
    refine ⟨h1, h2, by rw [hc _ (by omega) (by omega)]; exact h3, by rw [hc _ (by omega) (by omega)]; exact h4, a, c, by rw [hc _ (by omega) (by omega)]; exact h5, h6, h7, ?_⟩
    rcases h8 with h8 | ⟨g, cs, ha, hFg, hb, hs, hl⟩
    · exact .inl h8
    · have hbg := hk g hFg hb.lt
      exact .inr ⟨g, cs, ha, hF g hFg, hbg.trans hb, hs, OwL.keepC (fun b hb => ⟨hF b hb.1, hb.2⟩) (fun b hb hl => hk b hb.1 hl) (fun j _ _ => World.cell?_of_block (w := w) hbg) hl⟩
theorem OwL.keepC {w w' : World} {e : TypeId} : ∀ {F F' : Nat → Prop} {ps : List T} {b o : Nat}, (∀ b, F b → F' b) → (∀ b, F b → b < w.heap.size → w'.heap[b]? = w.heap[b]?) →
    (∀ j, o ≤ j → j < o + 3 * ps.length → w'.cell? ⟨b, j, none⟩ = w.cell? ⟨b, j, none⟩) → OwL w e F ps b o → OwL w' e F' ps b o
  | _, _, [], _, _, _, _, _, _ => by simp [OwL]
  | F, F', t :: r, b, o, hF, hk, hc, h => by
    simp only [OwL] at h ⊢
    obtain ⟨F1, F2, h1, h2, h3, h4, h5⟩ := h
    exact ⟨F1, F2, fun b hb => hF b (h1 b hb), fun b hb => hF b (h2 b hb), h3, OwC.keepC (fun _ h => h) (fun b hb hl => hk b (h1 b hb) hl) (fun j hj hj' => hc j hj (by simp; omega)) h4,
      OwL.keepC (fun _ h => h) (fun b hb hl => hk b (h2 b hb) hl) (fun j hj hj' => hc j (by omega) (by simp; omega)) h5⟩
end
theorem OwS.keep {w w' : World} {e : TypeId} {F F' : Nat → Prop} {ps : List T} {a : Option Addr} {c : Nat} (hF : ∀ b, F b → F' b) (hk : ∀ b, F b → b < w.heap.size → w'.heap[b]? = w.heap[b]?) (h : OwS w e F ps a c) : OwS w' e F' ps a c := by
  obtain ⟨h1, h2, h3⟩ := h
  refine ⟨h1, h2, ?_⟩
  rcases h3 with h3 | ⟨g, cs, ha, hFg, hb, hs, hl⟩
  · exact .inl h3
  · have hbg := hk g hFg hb.lt
    exact .inr ⟨g, cs, ha, hF g hFg, hbg.trans hb, hs, OwL.keepC (fun b hb => ⟨hF b hb.1, hb.2⟩) (fun b hb hl => hk b hb.1 hl) (fun j _ _ => World.cell?_of_block (w := w) hbg) hl⟩

section
variable {w w' : World} {e : TypeId} {F F' : Nat → Prop} {ps : List T} {a : Option Addr} {c : Nat}
theorem OwS.weaken (h : OwS w e F ps a c) (hF : ∀ b, F b → F' b) : OwS w e F' ps a c := h.keep hF (fun _ _ _ => rfl)
theorem OwS.below (h : OwS w e F ps a c) (hb : Below w.heap.size w w') : OwS w' e F ps a c := h.keep (fun _ h => h) (fun b _ hl => hb.block b hl)
theorem OwS.alloc (h : OwS w e F ps a c) (o : Obj) : OwS (w.alloc o) e F ps a c := h.below ((Below.refl _ _).alloc (Nat.le_refl _) o)
theorem OwS.drew (h : OwS w e F ps a c) : OwS w.drew e F ps a c := OwS.keep (w := w) (w' := w.drew) (fun _ h => h) (fun _ _ _ => rfl) h
theorem OwS.drewN (h : OwS w e F ps a c) (n : Nat) : OwS (w.drewN n) e F ps a c := OwS.keep (w := w) (w' := w.drewN n) (fun _ h => h) (fun _ _ _ => rfl) h
theorem OwS.setCell (h : OwS w e F ps a c) {p : Addr} (hp : ∀ b, F b → b ≠ p.block) (v : Value) : OwS (w.setCell p v) e F ps a c := h.keep (fun _ h => h) (fun b hb _ => Below.heap_setCell _ _ _ _ (hp b hb))
theorem OwS.only {g : Nat} (h : OwS w e F ps a c) (hg : ∀ b, F b → b ≠ g) (ho : Only g w w') : OwS w' e F ps a c :=
  h.keep (fun _ h => h) (fun b hb hl => ho.block b hl (by intro e; injection e with e; exact hg b hb e))
theorem OwS.nil : OwS w e F [] none 0 := ⟨by simp, by omega, .inl ⟨rfl, rfl, rfl⟩⟩
end

mutual
theorem OwC.tight {w : World} {e : TypeId} : ∀ {F : Nat → Prop} {t : T} {b o : Nat}, OwC w e F t b o → OwC w e (fun b => F b ∧ b < w.heap.size) t b o
  | F, .mk k n ps, b, o, h => by
    simp only [OwC] at h ⊢
    obtain ⟨h1, h2, h3, h4, a, c, h5, h6, h7, h8⟩ := h
    refine ⟨h1, h2, h3, h4, a, c, h5, h6, h7, ?_⟩
    rcases h8 with h8 | ⟨g, cs, ha, hFg, hb, hs, hl⟩
    · exact .inl h8
    · exact .inr ⟨g, cs, ha, ⟨hFg, hb.lt⟩, hb, hs, OwL.keepC (fun b hb => ⟨⟨hb.1.1, hb.2⟩, hb.1.2⟩) (fun _ _ _ => rfl) (fun _ _ _ => rfl) (OwL.tight hl)⟩
theorem OwL.tight {w : World} {e : TypeId} : ∀ {F : Nat → Prop} {ps : List T} {b o : Nat}, OwL w e F ps b o → OwL w e (fun b => F b ∧ b < w.heap.size) ps b o
  | _, [], _, _, _ => by simp [OwL]
  | F, t :: r, b, o, h => by
    simp only [OwL] at h ⊢
    obtain ⟨F1, F2, h1, h2, h3, h4, h5⟩ := h
    exact ⟨_, _, fun b hb => ⟨h1 b hb.1, hb.2⟩, fun b hb => ⟨h2 b hb.1, hb.2⟩, fun b hb hh => h3 b hb.1 hh.1, OwC.tight h4, OwL.tight h5⟩
end
theorem OwS.tight {w : World} {e : TypeId} {F : Nat → Prop} {ps : List T} {a : Option Addr} {c : Nat} (h : OwS w e F ps a c) : OwS w e (fun b => F b ∧ b < w.heap.size) ps a c := by
  obtain ⟨h1, h2, h3⟩ := h
  refine ⟨h1, h2, ?_⟩
  rcases h3 with h3 | ⟨g, cs, ha, hFg, hb, hs, hl⟩
  · exact .inl h3
  · exact .inr ⟨g, cs, ha, ⟨hFg, hb.lt⟩, hb, hs, OwL.keepC (fun b hb => ⟨⟨hb.1.1, hb.2⟩, hb.1.2⟩) (fun _ _ _ => rfl) (fun _ _ _ => rfl) hl.tight⟩
theorem OwS.head {w : World} {e : TypeId} {F : Nat → Prop} {ps : List T} {a : Option Addr} {c : Nat} (h : OwS w e F ps a c) (x : Addr) (hx : a = some x) : F x.block := by
  rcases h.2.2 with ⟨_, h3, _⟩ | ⟨g, cs, ha, hFg, _⟩
  · rw [h3] at hx; cases hx
  · rw [ha] at hx; injection hx with hx; rw [← hx]; exact hFg

def flat : List (T × Option Addr × Nat) → List Value
  | [] => []
  | x :: r => .int .i64 x.1.k :: .int .i64 x.1.n :: .slice x.2.1 x.1.ps.length x.2.2 :: flat r

/-- Elements laid one behind the other, each with blocks of its own. -/
def Parted (w : World) (e : TypeId) : (Nat → Prop) → List (T × Option Addr × Nat) → Prop
  | _, [] => True
  | F, x :: r => ∃ F1 F2 : Nat → Prop, (∀ b, F1 b → F b) ∧ (∀ b, F2 b → F b) ∧ (∀ b, F1 b → ¬ F2 b) ∧ i64ok x.1.k ∧ i64ok x.1.n ∧ OwS w e F1 x.1.ps x.2.1 x.2.2 ∧ Parted w e F2 r

theorem OwL.of_cells {w w' : World} {e : TypeId} {g : Nat} : ∀ {F F' : Nat → Prop} (xs : List (T × Option Addr × Nat)) (o : Nat), (∀ b, F b → F' b) → (∀ b, F b → b < w.heap.size → w'.heap[b]? = w.heap[b]?) →
    (∀ j v, (flat xs)[j]? = some v → w'.cell? ⟨g, o + j, none⟩ = some v) → Parted w e F xs → OwL w' e F' (xs.map (·.1)) g o
  | _, _, [], _, _, _, _, _ => by simp [OwL]
  | F, F', x :: r, o, hF, hk, hc, hx => by
    obtain ⟨F1, F2, h1, h2, h3, k1, k2, hs, hr⟩ := hx
    refine ⟨F1, F2, fun b hb => hF b (h1 b hb), fun b hb => hF b (h2 b hb), h3, OwC.iff.2 ⟨k1, k2, hc 0 _ rfl, hc 1 _ rfl, _, _, hc 2 _ rfl, hs.keep (fun _ h => h) (fun b hb hl => hk b (h1 b hb) hl)⟩, OwL.of_cells r (o + 3) (fun _ h => h) (fun b hb hl => hk b (h2 b hb) hl) (fun j v hv => ?_) hr⟩
    rw [show o + 3 + j = o + (j + 3) by omega]
    exact hc (j + 3) v (by simpa [flat] using hv)

theorem flat_length : ∀ xs, (flat xs).length = xs.length * 3
  | [] => rfl
  | x :: r => by simp [flat, flat_length r]; omega

/-- A new block with just these elements. -/
theorem OwS.of_new {w w4 : World} {e : TypeId} {F F' : Nat → Prop} (xs : List (T × Option Addr × Nat)) (ps : List T) (hps : ps = xs.map (·.1)) (cs : Array Value) (hcs : cs.toList = flat xs) (hF : ∀ b, F b → F' b) (hk : ∀ b, F b → b < w.heap.size → w4.heap[b]? = w.heap[b]?)
    (hx : Parted w e F xs) (hlt : ∀ b, F b → b ≠ w4.heap.size) (hg : F' w4.heap.size) (hl : ps.length ≤ 9223372036854775807) : OwS (w4.alloc (.cells cs e)) e F' ps (some ⟨w4.heap.size, 0, none⟩) ps.length := by
  refine ⟨Nat.le_refl _, hl, .inr ⟨w4.heap.size, cs, rfl, hg, Blk.new _ _ _, ?_, ?_⟩⟩
  · rw [← Array.length_toList, hcs, flat_length, hps]; simp; omega
  · subst hps
    refine OwL.of_cells (w := w) xs 0 (fun b hb => ⟨hF b hb, hlt b hb⟩) (fun b hb hl => ?_) (fun j v hj => ?_) hx
    · have := hk b hb hl
      have hb4 : b < w4.heap.size := by
        rcases Nat.lt_or_ge b w4.heap.size with h | h
        · exact h
        · rw [Array.getElem?_eq_none h, Array.getElem?_eq_getElem hl] at this; cases this
      rw [Below.heap_alloc _ _ _ hb4]; exact this
    · rw [Nat.zero_add, World.cell?_alloc_new, ← hj, ← hcs]; simp

theorem OwC.move {w w' : World} {e : TypeId} {F F' : Nat → Prop} {t : T} {b o b' o' : Nat} (hF : ∀ b, F b → F' b) (hk : ∀ b, F b → b < w.heap.size → w'.heap[b]? = w.heap[b]?)
    (hc : ∀ j, j < 3 → w'.cell? ⟨b', o' + j, none⟩ = w.cell? ⟨b, o + j, none⟩) (h : OwC w e F t b o) : OwC w' e F' t b' o' := by
  obtain ⟨h1, h2, h3, h4, a, c, h5, h6⟩ := OwC.iff.1 h
  exact OwC.iff.2 ⟨h1, h2, (hc 0 (by omega)).trans h3, (hc 1 (by omega)).trans h4, a, c, (hc 2 (by omega)).trans h5, h6.keep hF hk⟩
theorem OwL.move {w w' : World} {e : TypeId} : ∀ {F F' : Nat → Prop} {ps : List T} {b o b' o' : Nat}, (∀ b, F b → F' b) → (∀ b, F b → b < w.heap.size → w'.heap[b]? = w.heap[b]?) →
    (∀ j, j < 3 * ps.length → w'.cell? ⟨b', o' + j, none⟩ = w.cell? ⟨b, o + j, none⟩) → OwL w e F ps b o → OwL w' e F' ps b' o'
  | _, _, [], _, _, _, _, _, _, _, _ => by simp [OwL]
  | F, F', t :: r, b, o, b', o', hF, hk, hc, h => by
    simp only [OwL] at h ⊢
    obtain ⟨F1, F2, h1, h2, h3, h4, h5⟩ := h
    refine ⟨F1, F2, fun b hb => hF b (h1 b hb), fun b hb => hF b (h2 b hb), h3, h4.move (fun _ h => h) (fun b hb hl => hk b (h1 b hb) hl) (fun j hj => hc j (by simp; omega)),
      OwL.move (fun _ h => h) (fun b hb hl => hk b (h2 b hb) hl) (fun j hj => ?_) h5⟩
    rw [Nat.add_assoc, Nat.add_assoc]
    exact hc (3 + j) (by simp; omega)

theorem OwL.snoc {w : World} {e : TypeId} : ∀ {F F1 F' : Nat → Prop} {ps : List T} {b o : Nat} {t : T}, OwL w e F ps b o → OwC w e F1 t b (o + 3 * ps.length) → (∀ b, F b → F' b) → (∀ b, F1 b → F' b) → (∀ b, F b → ¬ F1 b) → OwL w e F' (ps ++ [t]) b o
  | F, F1, F', [], b, o, t, _, ht, h1, h2, h3 => by
    simp only [List.nil_append, OwL]
    exact ⟨F1, fun _ => False, h2, fun _ h => h.elim, fun _ _ h => h, by simpa using ht, trivial⟩
  | F, F1, F', u :: r, b, o, t, h, ht, h1, h2, h3 => by
    simp only [List.cons_append, OwL] at h ⊢
    obtain ⟨G1, G2, k1, k2, k3, k4, k5⟩ := h
    refine ⟨G1, fun b => G2 b ∨ F1 b, fun b hb => h1 b (k1 b hb), fun b hb => hb.elim (fun h => h1 b (k2 b h)) (h2 b), fun b hb hh => hh.elim (k3 b hb) (h3 b (k1 b hb)), k4,
      OwL.snoc k5 (by rw [show o + 3 + 3 * r.length = o + 3 * (u :: r).length by simp; omega]; exact ht) (fun _ h => .inl h) (fun _ h => .inr h) (fun b hb => h3 b (k2 b hb))⟩

/-- What append leaves: the list, one longer, in memory of its own; of old blocks the list's own head block alone may have turned. -/
def Grew (w : World) (e : TypeId) (F F1 : Nat → Prop) (ps : List T) (av : Option Addr) (t : T) (v' : Value) (w' : World) : Prop :=
  ∃ a' c', v' = .slice a' (ps.length + 1) c' ∧ OwS w' e (fun b => F b ∨ F1 b ∨ w.heap.size ≤ b) (ps ++ [t]) a' c' ∧ w.heap.size ≤ w'.heap.size ∧ (∀ b, b < w.heap.size → (∀ x, av = some x → b ≠ x.block) → w'.heap[b]? = w.heap[b]?) ∧ w'.os = w.os ∧ w'.tape = w.tape ∧ w'.output = w.output

theorem add0 (g j : Nat) : (⟨g, 0, none⟩ : Addr).add j = ⟨g, j, none⟩ := by unfold Addr.add; split <;> simp_all

theorem grew_fits {w w' : World} {e : TypeId} {F F1 : Nat → Prop} {ps : List T} {g c : Nat} {cs : Array Value} {t : T} {a2 : Option Addr} {c2 : Nat} (hF : F g) (hl : OwL w e (fun b => F b ∧ b ≠ g) ps g 0) (hb : Blk w g e cs) (hcs : cs.size = 3 * c) (hlt : ps.length + 1 ≤ c) (hc : c ≤ 9223372036854775807)
    (ok1 : i64ok t.k) (ok2 : i64ok t.n) (hs : OwS w e F1 t.ps a2 c2) (hd : ∀ b, F b → ¬ F1 b)
    (hr : w'.ownsRow 0 e 3 (.slice (some ⟨g, 0, none⟩) (ps.length + 1) c) (ps.length + 1) (cs.toList.take (ps.length * 3) ++ [.int .i64 t.k, .int .i64 t.n, .slice a2 t.ps.length c2])) (hg : w.grownBy w' (some g)) :
    Grew w e F F1 ps (some ⟨g, 0, none⟩) t (.slice (some ⟨g, 0, none⟩) (ps.length + 1) c) w' := by
  have hcell := hr.cells (g := g) rfl
  simp only [add0] at hcell
  have hlen : (cs.toList.take (ps.length * 3)).length = ps.length * 3 := by simp; omega
  obtain ⟨_, h2⟩ := hr
  rcases h2 with ⟨h2, _⟩ | ⟨g', cap, cur, hv, _, hh, _, _, hcz, _⟩
  · simp at h2
  simp only [Value.slice.injEq, Option.some.injEq, Addr.mk.injEq, and_true, true_and] at hv
  obtain ⟨rfl, rfl⟩ := hv
  refine ⟨_, _, rfl, ⟨by simp; omega, hc, .inr ⟨g, cur, rfl, .inl hF, hh, by omega, ?_⟩⟩, hg.size, fun b hb' hne => hg.block b hb' (by intro h; injection h with h; exact hne _ rfl (by simpa using h)), hg.os, hg.tape, hg.output⟩
  have hkeep : ∀ b, b ≠ g → b < w.heap.size → w'.heap[b]? = w.heap[b]? := fun b hne hb' => hg.block b hb' (by intro h; injection h; contradiction)
  refine OwL.snoc (F := fun b => F b ∧ b ≠ g) (F1 := F1) (hl.move (fun _ h => h) (fun b hb' hl' => hkeep b hb'.2 hl') (fun j hj => ?_)) ?_ (fun b hb' => ⟨.inl hb'.1, hb'.2⟩) (fun b hb' => ⟨.inr (.inl hb'), fun h => hd b (by rw [h]; exact hF) hb'⟩) (fun b hb' => hd b hb'.1)
  · rw [Nat.zero_add, hb.cell j]
    have hj' : j < cs.size := by omega
    rw [Array.getElem?_eq_getElem hj']
    exact hcell j _ (by rw [List.getElem?_append_left (by rw [hlen]; omega), List.getElem?_take, if_pos (by omega)]; simp)
  · refine OwC.iff.2 ⟨ok1, ok2, ?_, ?_, a2, c2, ?_, hs.keep (fun _ h => h) (fun b hb' hl' => hkeep b (fun h => hd b (by rw [h]; exact hF) hb') hl')⟩
    · exact hcell _ _ (by rw [List.getElem?_append_right (by rw [hlen]; omega), hlen, show 0 + 3 * ps.length - ps.length * 3 = 0 by omega]; rfl)
    · exact hcell _ _ (by rw [List.getElem?_append_right (by rw [hlen]; omega), hlen, show 0 + 3 * ps.length + 1 - ps.length * 3 = 1 by omega]; rfl)
    · exact hcell _ _ (by rw [List.getElem?_append_right (by rw [hlen]; omega), hlen, show 0 + 3 * ps.length + 2 - ps.length * 3 = 2 by omega]; rfl)

theorem grew_new {w w' : World} {e : TypeId} {F F1 : Nat → Prop} {ps : List T} {av : Option Addr} {olds : List Value} {t : T} {a2 : Option Addr} {c2 : Nat} {v' : Value} (hlen : olds.length = ps.length * 3)
    (hl : ∃ b o, OwL w e F ps b o ∧ ∀ j, j < 3 * ps.length → w.cell? ⟨b, o + j, none⟩ = olds[j]?)
    (hFl : ∀ b, F b → b < w.heap.size) (hF1l : ∀ b, F1 b → b < w.heap.size)
    (ok1 : i64ok t.k) (ok2 : i64ok t.n) (hs : OwS w e F1 t.ps a2 c2) (hd : ∀ b, F b → ¬ F1 b)
    (hr : w'.ownsRow w.heap.size e 3 v' (ps.length + 1) (olds ++ [.int .i64 t.k, .int .i64 t.n, .slice a2 t.ps.length c2])) (hg : w.grownBy w' none) :
    Grew w e F F1 ps av t v' w' := by
  obtain ⟨h1, h2⟩ := hr
  have hr : w'.ownsRow w.heap.size e 3 v' (ps.length + 1) (olds ++ [.int .i64 t.k, .int .i64 t.n, .slice a2 t.ps.length c2]) := ⟨h1, h2⟩
  rcases h2 with ⟨_, h2⟩ | ⟨g, cap, cur, rfl, hge, hh, hn, hcap, hcz, _⟩
  · omega
  have hcell := hr.cells (g := g) rfl
  simp only [add0] at hcell
  have hkeep : ∀ b, b < w.heap.size → w'.heap[b]? = w.heap[b]? := fun b hb' => hg.block b hb' (by simp)
  have hcap' : cap ≤ 9223372036854775807 := hcap
  refine ⟨_, _, rfl, ⟨by simp; omega, hcap', .inr ⟨g, cur, rfl, .inr (.inr hge), hh, by omega, ?_⟩⟩, hg.size, fun b hb' _ => hkeep b hb', hg.os, hg.tape, hg.output⟩
  obtain ⟨b, o, hl, hcl⟩ := hl
  refine OwL.snoc (F := F) (F1 := F1) (hl.move (fun _ h => h) (fun b _ hl' => hkeep b hl') (fun j hj => ?_)) ?_ (fun b hb' => ⟨.inl hb', by have := hFl b hb'; omega⟩) (fun b hb' => ⟨.inr (.inl hb'), by have := hF1l b hb'; omega⟩) hd
  · have hj' : j < olds.length := by omega
    rw [Nat.zero_add, hcl j hj, List.getElem?_eq_getElem hj']
    exact hcell j _ (by rw [List.getElem?_append_left hj', List.getElem?_eq_getElem hj'])
  · refine OwC.iff.2 ⟨ok1, ok2, ?_, ?_, a2, c2, ?_, hs.keep (fun _ h => h) (fun b _ hl' => hkeep b hl')⟩
    · exact hcell _ _ (by rw [List.getElem?_append_right (by omega), hlen, show 0 + 3 * ps.length - ps.length * 3 = 0 by omega]; rfl)
    · exact hcell _ _ (by rw [List.getElem?_append_right (by omega), hlen, show 0 + 3 * ps.length + 1 - ps.length * 3 = 1 by omega]; rfl)
    · exact hcell _ _ (by rw [List.getElem?_append_right (by omega), hlen, show 0 + 3 * ps.length + 2 - ps.length * 3 = 2 by omega]; rfl)

/-- APPEND of one element to a list of the call's own. -/
theorem wpList_append_ow {P : Program} (w : World) {ops : Array Oper} {rest : List Oper} {o : Oper} {a : Act} {Q : Exit → Act → World → Prop}
    (hg : o.guard = none) (s x : Operand) (tS e : TypeId) (hop : o.op = Op.call { callee := Callee.builtin Builtin.append, args := #[s, x], argTypes := #[tS, tS] })
    (i : TypeInfo) (z : Value) (h1 : P.underlying tS = some (.slice e)) (h2 : P.info? e = some i) (h3 : i.zero = some z) (h4 : i.size = 3) (h5 : i.bytes = 40) (h6 : z.cells.size = 3)
    (F F1 : Nat → Prop) (ps : List T) (av : Option Addr) (c : Nat) (hs : a.eval s = .slice av ps.length c) (how : OwS w e F ps av c) (hlen : ps.length ≤ 1000000)
    (ad : Addr) (cx : Nat) (hx : a.eval x = .slice (some ad) 1 cx) (t : T) (a2 : Option Addr) (c2 : Nat) (hnews : ∀ j u, [Value.int .i64 t.k, .int .i64 t.n, .slice a2 t.ps.length c2][j]? = some u → w.cell? (ad.add j) = some u)
    (ok1 : i64ok t.k) (ok2 : i64ok t.n) (hts : OwS w e F1 t.ps a2 c2) (hd : ∀ b, F b → ¬ F1 b) (hFl : ∀ b, F b → b < w.heap.size) (hF1l : ∀ b, F1 b → b < w.heap.size)
    (hK : ∀ v' w', Grew w e F F1 ps av t v' w' → wpList P ops Q rest (a.put o.dst v') w') : wpList P ops Q (o :: rest) a w := by
  obtain ⟨hn, hc, hcase⟩ := how
  have ml : maxLen = 9223372036854775807 := rfl
  rcases hcase with ⟨rfl, rfl, rfl⟩ | ⟨g, cs, rfl, hF, hb, hcs, hl⟩
  · refine wpList_append_grows w hg s x tS hop e i z 3 40 h1 h2 h3 h4 h5 h6 (by omega) none 0 0 [] hs (fun _ => ⟨rfl, rfl⟩) (by simp) (by intro b hb; cases hb) ad 1 cx _ hx (by simp) hnews (by simp [Value.oneCell']) (by omega) (by omega) (by omega) ?_
    intro v' w' hr hgr
    exact hK v' w' (grew_new (olds := []) (by simp) ⟨0, 0, by simp [OwL], by simp⟩ hFl hF1l ok1 ok2 hts hd (by simpa using hr) hgr)
  · have hcell : ∀ b, some (⟨g, 0, none⟩ : Addr) = some b → ∀ j u, (cs.toList.take (ps.length * 3))[j]? = some u → w.cell? (b.add j) = some u := by
      intro b hb' j u hu
      obtain rfl : (⟨g, 0, none⟩ : Addr) = b := by simpa using hb'
      rw [add0, hb.cell j]
      rw [List.getElem?_take] at hu
      split at hu
      · simpa using hu
      · cases hu
    have hone : ∀ u ∈ [Value.int .i64 t.k, .int .i64 t.n, .slice a2 t.ps.length c2], u.oneCell' = true := by simp [Value.oneCell']
    by_cases hfit : ps.length + 1 ≤ c
    · have hrow : w.ownsRow 0 e 3 (.slice (some ⟨g, 0, none⟩) ps.length c) ps.length (cs.toList.take (ps.length * 3)) :=
        ⟨by simp; omega, .inr ⟨g, c, cs, rfl, Nat.zero_le _, hb, hn, by omega, by omega, rfl⟩⟩
      refine wpList_append_fits w hg s x tS hop 0 e i 3 h1 h2 h4 g ps.length c _ hs hrow ad 1 cx _ hx (by simp) hnews hone hfit ?_
      intro w' hr hgr
      exact hK _ w' (grew_fits hF hl hb hcs hfit hc ok1 ok2 hts hd hr hgr)
    · refine wpList_append_grows w hg s x tS hop e i z 3 40 h1 h2 h3 h4 h5 h6 (by omega) (some ⟨g, 0, none⟩) ps.length c (cs.toList.take (ps.length * 3)) hs (fun h => by cases h) (by simp; omega) hcell ad 1 cx _ hx (by simp) hnews hone (by omega) (by omega) (by omega) ?_
      intro v' w' hr hgr
      have hlo : (cs.toList.take (ps.length * 3)).length = ps.length * 3 := by simp; omega
      refine hK v' w' (grew_new hlo ⟨g, 0, OwL.move (w := w) (fun b h => h.1) (fun _ _ _ => rfl) (fun _ _ => rfl) hl, fun j hj => ?_⟩ hFl hF1l ok1 ok2 hts hd hr hgr)
      rw [Nat.zero_add, hb.cell j, List.getElem?_take, if_pos (by omega)]
      simp

end Go.Proofs.Ytklmpagpkeffjaa

/- l91Num, l91Key, l91Task: a task drawn -/
namespace Go.Proofs.Ytklmpagpkeffjaa
open Go.RowKit

/-- A number from lo to hi was drawn, by at most d picks. -/
def Drew (g p d : Nat) (lo hi : Int) (w : World) (e : Ending) (w' : World) : Prop := ∃ (r : Int) (p' : Nat), e = .returned (.int .i64 r) ∧ lo ≤ r ∧ r ≤ hi ∧ p ≤ p' ∧ p' ≤ p + d ∧ RdAt w' g p' ∧ Only g w w'
/-- A task was drawn, by at most d picks: a fitting one of at most m nodes, in new memory. -/
def DrewT (g p d m : Nat) (w : World) (e : Ending) (w' : World) : Prop := ∃ (t : T) (a : Option Addr) (c p' : Nat), e = .returned (.agg #[.int .i64 t.k, .int .i64 t.n, .slice a t.ps.length c]) ∧ OwS w' 42 (fun b => w.heap.size ≤ b ∧ b < w'.heap.size) t.ps a c ∧
  i64ok t.k ∧ i64ok t.n ∧ t.fit = true ∧ t.nodes ≤ m ∧ p ≤ p' ∧ p' ≤ p + d ∧ RdAt w' g p' ∧ Only g w w'

/-- l91Key: a key below 10. -/
theorem key_any (w : World) (g p : Nat) (below : Int) (hr : RdAt w g p) (hp : p ≤ 999990) (h1 : 1 ≤ below) (h2 : below ≤ 10) :
    Calls Try.prog 134 #[.pointer (some ⟨g, 0, none⟩), .int .i64 below] w (Drew g p 2 0 9 w) := by
  have HR := Lib.hid hr
  clear hr
  go_enter Try.func134, Try.ntmps134
  go_wp2_with fail
  refine (pick_any _ g p 25 HR.out (by omega) (by omega) (by omega)).mono ?_
  rintro e w1 ⟨r, rfl, hr0, hr1, hrd, ho⟩
  have HR1 := Lib.hid hrd
  have HO1 := Lib.hid ho
  clear hrd ho HR hr1
  by_cases h : r = 0
  · subst h
    go_wp2_with fail
    go_ret
    exact ⟨9, p + 1, rfl, by omega, by omega, by omega, by omega, HR1.out, HO1.out⟩
  · have hb : (r == 0) = false := by simpa using h
    clear h
    go_wp2_with fail
    refine (pick_any _ g (p + 1) below HR1.out (by omega) (by omega) (by omega)).mono ?_
    rintro e w2 ⟨r2, rfl, hr20, hr21, hrd, ho⟩
    have HR2 := Lib.hid hrd
    have HO2 := Lib.hid ho
    have hlt := hr21 h1
    clear hrd ho hr21
    go_wp2_with fail
    go_ret
    exact ⟨r2, p + 2, rfl, by omega, by omega, by omega, by omega, HR2.out, HO1.out.trans HO2.out⟩

def dN : Nat → Nat | 0 => 3 | k + 1 => 3 + 3 * dN k
def nN : Nat → Nat | 0 => 1 | k + 1 => 1 + 3 * nN k
theorem dN_ge (k : Nat) : 3 ≤ dN k := by cases k <;> simp [dN]
theorem nN_ge (k : Nat) : 1 ≤ nN k := by cases k <;> simp [nN]

def DTask (k : Nat) : Prop := ∀ (w : World) (g p : Nat) (below : Int), RdAt w g p → p + dN k ≤ 999990 → 0 ≤ below → below ≤ 10 →
  Calls Try.prog 122 #[.pointer (some ⟨g, 0, none⟩), .int .i64 below, .int .i64 k] w (DrewT g p (dN k) (nN k) w)

theorem drewT_end {w w2 : World} {g p p' d m : Nat} {kd n : Int} (hgl : g < w.heap.size) (hO : Only g w w2) (hR : RdAt w2 g p')
    (ok1 : i64ok kd) (ok2 : i64ok n) (hf : (T.mk kd n []).fit = true) (hm : (T.mk kd n []).nodes ≤ m) (h1 : p ≤ p') (h2 : p' ≤ p + d) :
    DrewT g p d m w (.returned (.agg #[.int .i64 kd, .int .i64 n, .slice none 0 0]))
      (((w2.setCell ⟨w.heap.size, 0, none⟩ (.int .i64 kd)).setCell ⟨w.heap.size, 1, none⟩ (.int .i64 n)).setCell ⟨w.heap.size, 2, none⟩ (.slice none 0 0)) := by
  refine ⟨.mk kd n [], none, 0, p', rfl, OwS.nil, ok1, ok2, hf, hm, h1, h2, ?_, ?_⟩
  · refine hR.keep fun k hk => ?_
    rw [Below.heap_setCell _ _ _ _ (by simp; omega), Below.heap_setCell _ _ _ _ (by simp; omega), Below.heap_setCell _ _ _ _ (by simp; omega)]
  · exact ((hO.set (.inr (by simp)) _).set (.inr (by simp)) _).set (.inr (by simp)) _

theorem drewT_node {w w3 : World} {g p p' d m : Nat} {kd n : Int} (xs : List (T × Option Addr × Nat)) (ps : List T) (hps : ps = xs.map (·.1)) (cs : Array Value) (hcs : cs.toList = flat xs) (hgl : g < w.heap.size) (hgt : w.heap.size < w3.heap.size) (hO : Only g w w3) (hR : RdAt w3 g p')
    (hx : Parted w3 42 (fun b => w.heap.size < b ∧ b < w3.heap.size) xs)
    (ok1 : i64ok kd) (ok2 : i64ok n) (hf : (T.mk kd n ps).fit = true) (hm : (T.mk kd n ps).nodes ≤ m) (hl : ps.length ≤ 3) (h1 : p ≤ p') (h2 : p' ≤ p + d) :
    DrewT g p d m w (.returned (.agg #[.int .i64 kd, .int .i64 n, .slice (some ⟨w3.heap.size, 0, none⟩) ps.length ps.length]))
      ((((w3.setCell ⟨w.heap.size, 0, none⟩ (.int .i64 kd)).setCell ⟨w.heap.size, 1, none⟩ (.int .i64 n)).setCell ⟨w.heap.size, 2, none⟩ (.slice (some ⟨w3.heap.size, 0, none⟩) ps.length ps.length)).alloc (.cells cs 42)) := by
  generalize hv : (Value.slice (some ⟨w3.heap.size, 0, none⟩) ps.length ps.length) = sv
  have hsz : (((w3.setCell ⟨w.heap.size, 0, none⟩ (.int .i64 kd)).setCell ⟨w.heap.size, 1, none⟩ (.int .i64 n)).setCell ⟨w.heap.size, 2, none⟩ sv).heap.size = w3.heap.size := by simp [World.setCell]
  have hold : ∀ k, k ≠ w.heap.size → (((w3.setCell ⟨w.heap.size, 0, none⟩ (.int .i64 kd)).setCell ⟨w.heap.size, 1, none⟩ (.int .i64 n)).setCell ⟨w.heap.size, 2, none⟩ sv).heap[k]? = w3.heap[k]? := fun k hk => by
    rw [Below.heap_setCell _ _ _ _ (by simpa using hk), Below.heap_setCell _ _ _ _ (by simpa using hk), Below.heap_setCell _ _ _ _ (by simpa using hk)]
  have hon : Only g w (((w3.setCell ⟨w.heap.size, 0, none⟩ (.int .i64 kd)).setCell ⟨w.heap.size, 1, none⟩ (.int .i64 n)).setCell ⟨w.heap.size, 2, none⟩ sv) := ((hO.set (.inr (by simp)) _).set (.inr (by simp)) _).set (.inr (by simp)) _
  generalize (((w3.setCell ⟨w.heap.size, 0, none⟩ (.int .i64 kd)).setCell ⟨w.heap.size, 1, none⟩ (.int .i64 n)).setCell ⟨w.heap.size, 2, none⟩ sv) = w4 at *
  have how : OwS (w4.alloc (.cells cs 42)) 42 (fun b => w.heap.size ≤ b ∧ b < (w4.alloc (.cells cs 42)).heap.size) ps (some ⟨w4.heap.size, 0, none⟩) ps.length :=
    OwS.of_new (w := w3) (F := fun b => w.heap.size < b ∧ b < w3.heap.size) xs ps hps cs hcs (fun b hb => ⟨by omega, by simp; omega⟩) (fun b hb _ => hold b (by omega)) hx (fun b hb => by omega) ⟨by omega, by simp⟩ (by omega)
  rw [hsz] at how
  refine ⟨.mk kd n ps, some ⟨w3.heap.size, 0, none⟩, ps.length, p', by rw [← hv]; rfl, how, ok1, ok2, hf, hm, h1, h2, ?_, hon.alloc _⟩
  refine hR.keep fun k hk => ?_
  have := hR.lt
  rw [Below.heap_alloc _ _ _ (by omega)]
  exact hold k (by omega)

theorem parted1 {w : World} {e : TypeId} {F A : Nat → Prop} {t : T} {a : Option Addr} {c : Nat} (h : i64ok t.k ∧ i64ok t.n ∧ OwS w e A t.ps a c) (hA : ∀ b, A b → F b) : Parted w e F [(t, a, c)] :=
  ⟨A, fun _ => False, hA, fun _ h => h.elim, fun _ _ h => h, h.1, h.2.1, h.2.2, trivial⟩
theorem parted2 {w : World} {e : TypeId} {F A B : Nat → Prop} {t u : T} {a b : Option Addr} {c d : Nat} (h : i64ok t.k ∧ i64ok t.n ∧ OwS w e A t.ps a c) (k : i64ok u.k ∧ i64ok u.n ∧ OwS w e B u.ps b d) (hA : ∀ b, A b → F b) (hB : ∀ b, B b → F b) (hd : ∀ b, A b → ¬ B b) :
    Parted w e F [(t, a, c), (u, b, d)] :=
  ⟨A, B, hA, hB, hd, h.1, h.2.1, h.2.2, parted1 k fun _ h => h⟩
theorem parted3 {w : World} {e : TypeId} {F A B C : Nat → Prop} {t u v : T} {a b x : Option Addr} {c d y : Nat} (h : i64ok t.k ∧ i64ok t.n ∧ OwS w e A t.ps a c) (k : i64ok u.k ∧ i64ok u.n ∧ OwS w e B u.ps b d) (l : i64ok v.k ∧ i64ok v.n ∧ OwS w e C v.ps x y)
    (hA : ∀ b, A b → F b) (hB : ∀ b, B b → F b) (hC : ∀ b, C b → F b) (hd : ∀ b, A b → ¬ B b) (hd' : ∀ b, A b → ¬ C b) (hd'' : ∀ b, B b → ¬ C b) :
    Parted w e F [(t, a, c), (u, b, d), (v, x, y)] :=
  ⟨A, fun b => B b ∨ C b, hA, fun b hb => hb.elim (hB b) (hC b), fun b hb hh => hh.elim (hd b hb) (hd' b hb), h.1, h.2.1, h.2.2, parted2 k l (fun _ h => .inl h) (fun _ h => .inr h) hd''⟩

theorem fit_two (k : Int) (hk : k = 2 ∨ k = 3) (t u : T) (h1 : t.fit = true) (h2 : u.fit = true) : (T.mk k 0 [t, u]).fit = true := by rcases hk with rfl | rfl <;> simp [T.fit, fit1, shp, fitL, h1, h2]
theorem fit_three (t u v : T) (h1 : t.fit = true) (h2 : u.fit = true) (h3 : v.fit = true) : (T.mk 4 0 [t, u, v]).fit = true := by simp [T.fit, fit1, shp, fitL, h1, h2, h3]
theorem fit_at (n : Int) (h0 : 0 ≤ n) (h9 : n ≤ 9) (t : T) (h1 : t.fit = true) : (T.mk 5 n [t]).fit = true := by simp [T.fit, fit1, shp, fitL, h1]; omega

theorem fit_num (n : Int) (h0 : 0 ≤ n) (h1 : n ≤ 96) : (T.mk 0 n []).fit = true := by simp [T.fit, fit1, shp, fitL]; omega
theorem fit_get (n : Int) (h0 : 0 ≤ n) (h1 : n ≤ 9) : (T.mk 1 n []).fit = true := by simp [T.fit, fit1, shp, fitL]; omega

set_option maxHeartbeats 1000000 in
theorem dtask_of (k : Nat) (ih : ∀ j, k = j + 1 → DTask j) (hk : k ≤ 3) : DTask k := by
  intro w g p below hr hp hb0 hb1
  have hgl := hr.lt
  have hgn : w.heap.size ≠ g := by omega
  have HR := Lib.hid (hr.alloc (.cells #[.int .i64 0, .int .i64 0, .slice none 0 0] 42))
  have HI := Lib.hid ih
  have hd := dN_ge k
  clear hr ih
  go_enter Try.func122, Try.ntmps122
  go_wp2_with fail
  refine (pick_any _ g p 9 HR.out (by omega) (by omega) (by omega)).mono ?_
  rintro e w1 ⟨r, rfl, hr0, hr1, hrd, ho⟩
  have hr9 := hr1 (by omega)
  have HR1 := Lib.hid hrd
  have HO1 := Lib.hid (((Only.refl g w).alloc _).trans ho)
  have HK1 := Lib.hid ((Blk.new w 42 #[.int .i64 0, .int .i64 0, .slice none 0 0]).only ho hgn)
  have hz1 : w.heap.size < w1.heap.size := HK1.out.lt
  obtain ⟨x0, x1, x2, f0, f1, f2⟩ := HK1.out.three
  clear hrd ho hr1 HR
  rcases (show k = 0 ∨ (k ≠ 0 ∧ r < 3) ∨ (k ≠ 0 ∧ 3 ≤ r) by omega) with hk0 | ⟨hk0, hr3⟩ | ⟨hk0, hr3⟩
  · have hkb : ((k : Int) == 0) = true := by simp [hk0]
    clear hk0
    by_cases hnum : r % 2 = 0
    · have hb : (r % 2 == 0) = true := by simp [hnum]
      clear hnum
      go_wp2_with fail
      refine (pick_any _ g (p + 1) 97 HR1.out (by omega) (by omega) (by omega)).mono ?_
      rintro e w2 ⟨r2, rfl, hr20, hr21, hrd, ho⟩
      have hr97 := hr21 (by omega)
      have HE := Lib.hid (And.intro hrd (And.intro (HO1.out.trans ho) (HK1.out.only ho hgn)))
      obtain ⟨y0, y1, y2, g0, g1, g2⟩ := HE.out.2.2.three
      clear hrd ho hr21 x0 x1 x2 f0 f1 f2
      go_wp2_with fail
      refine bodyPost_ret (v := .agg #[.int .i64 0, .int .i64 r2, .slice none 0 0]) (by simp [results, Try.results122, go_sem, y0, y1, y2]) rfl ?_
      exact drewT_end (kd := 0) (n := r2) hgl HE.out.2.1 HE.out.1 (by simp [i64ok]) (by simp [i64ok]; omega) (fit_num _ hr20 (by omega)) (by have := nN_ge k; simpa [T.nodes, nodesL] using this) (by omega) (by omega)
    have hb : (r % 2 == 0) = false := by simpa using hnum
    clear hnum
    by_cases hbz : below = 0
    · have hbb : (below == 0) = true := by simp [hbz]
      clear hbz
      go_wp2_with fail
      refine (pick_any _ g (p + 1) 97 HR1.out (by omega) (by omega) (by omega)).mono ?_
      rintro e w2 ⟨r2, rfl, hr20, hr21, hrd, ho⟩
      have hr97 := hr21 (by omega)
      have HE := Lib.hid (And.intro hrd (And.intro (HO1.out.trans ho) (HK1.out.only ho hgn)))
      obtain ⟨y0, y1, y2, g0, g1, g2⟩ := HE.out.2.2.three
      clear hrd ho hr21 x0 x1 x2 f0 f1 f2
      go_wp2_with fail
      refine bodyPost_ret (v := .agg #[.int .i64 0, .int .i64 r2, .slice none 0 0]) (by simp [results, Try.results122, go_sem, y0, y1, y2]) rfl ?_
      exact drewT_end (kd := 0) (n := r2) hgl HE.out.2.1 HE.out.1 (by simp [i64ok]) (by simp [i64ok]; omega) (fit_num _ hr20 (by omega)) (by have := nN_ge k; simpa [T.nodes, nodesL] using this) (by omega) (by omega)
    · have hbb : (below == 0) = false := by simpa using hbz
      have hb1' : 1 ≤ below := by omega
      clear hbz
      go_wp2_with fail
      refine (key_any _ g (p + 1) below HR1.out (by omega) (by omega) (by omega)).mono ?_
      rintro e w2 ⟨r2, p2, rfl, hr20, hr21, hp0, hp1, hrd, ho⟩
      have HE := Lib.hid (And.intro hrd (And.intro (HO1.out.trans ho) (HK1.out.only ho hgn)))
      obtain ⟨y0, y1, y2, g0, g1, g2⟩ := HE.out.2.2.three
      clear hrd ho x0 x1 x2 f0 f1 f2
      go_wp2_with fail
      refine bodyPost_ret (v := .agg #[.int .i64 1, .int .i64 r2, .slice none 0 0]) (by simp [results, Try.results122, go_sem, y0, y1, y2]) rfl ?_
      exact drewT_end (kd := 1) (n := r2) hgl HE.out.2.1 HE.out.1 (by simp [i64ok]) (by simp [i64ok]; omega) (fit_get _ hr20 (by omega)) (by have := nN_ge k; simpa [T.nodes, nodesL] using this) (by omega) (by omega)
  · have hkb : ((k : Int) == 0) = false := by simpa using hk0
    clear hk0
    by_cases hnum : r % 2 = 0
    · have hb : (r % 2 == 0) = true := by simp [hnum]
      clear hnum
      go_wp2_with fail
      refine (pick_any _ g (p + 1) 97 HR1.out (by omega) (by omega) (by omega)).mono ?_
      rintro e w2 ⟨r2, rfl, hr20, hr21, hrd, ho⟩
      have hr97 := hr21 (by omega)
      have HE := Lib.hid (And.intro hrd (And.intro (HO1.out.trans ho) (HK1.out.only ho hgn)))
      obtain ⟨y0, y1, y2, g0, g1, g2⟩ := HE.out.2.2.three
      clear hrd ho hr21 x0 x1 x2 f0 f1 f2
      go_wp2_with fail
      refine bodyPost_ret (v := .agg #[.int .i64 0, .int .i64 r2, .slice none 0 0]) (by simp [results, Try.results122, go_sem, y0, y1, y2]) rfl ?_
      exact drewT_end (kd := 0) (n := r2) hgl HE.out.2.1 HE.out.1 (by simp [i64ok]) (by simp [i64ok]; omega) (fit_num _ hr20 (by omega)) (by have := nN_ge k; simpa [T.nodes, nodesL] using this) (by omega) (by omega)
    have hb : (r % 2 == 0) = false := by simpa using hnum
    clear hnum
    by_cases hbz : below = 0
    · have hbb : (below == 0) = true := by simp [hbz]
      clear hbz
      go_wp2_with fail
      refine (pick_any _ g (p + 1) 97 HR1.out (by omega) (by omega) (by omega)).mono ?_
      rintro e w2 ⟨r2, rfl, hr20, hr21, hrd, ho⟩
      have hr97 := hr21 (by omega)
      have HE := Lib.hid (And.intro hrd (And.intro (HO1.out.trans ho) (HK1.out.only ho hgn)))
      obtain ⟨y0, y1, y2, g0, g1, g2⟩ := HE.out.2.2.three
      clear hrd ho hr21 x0 x1 x2 f0 f1 f2
      go_wp2_with fail
      refine bodyPost_ret (v := .agg #[.int .i64 0, .int .i64 r2, .slice none 0 0]) (by simp [results, Try.results122, go_sem, y0, y1, y2]) rfl ?_
      exact drewT_end (kd := 0) (n := r2) hgl HE.out.2.1 HE.out.1 (by simp [i64ok]) (by simp [i64ok]; omega) (fit_num _ hr20 (by omega)) (by have := nN_ge k; simpa [T.nodes, nodesL] using this) (by omega) (by omega)
    · have hbb : (below == 0) = false := by simpa using hbz
      have hb1' : 1 ≤ below := by omega
      clear hbz
      go_wp2_with fail
      refine (key_any _ g (p + 1) below HR1.out (by omega) (by omega) (by omega)).mono ?_
      rintro e w2 ⟨r2, p2, rfl, hr20, hr21, hp0, hp1, hrd, ho⟩
      have HE := Lib.hid (And.intro hrd (And.intro (HO1.out.trans ho) (HK1.out.only ho hgn)))
      obtain ⟨y0, y1, y2, g0, g1, g2⟩ := HE.out.2.2.three
      clear hrd ho x0 x1 x2 f0 f1 f2
      go_wp2_with fail
      refine bodyPost_ret (v := .agg #[.int .i64 1, .int .i64 r2, .slice none 0 0]) (by simp [results, Try.results122, go_sem, y0, y1, y2]) rfl ?_
      exact drewT_end (kd := 1) (n := r2) hgl HE.out.2.1 HE.out.1 (by simp [i64ok]) (by simp [i64ok]; omega) (fit_get _ hr20 (by omega)) (by have := nN_ge k; simpa [T.nodes, nodesL] using this) (by omega) (by omega)
  · obtain ⟨j, rfl⟩ : ∃ j, k = j + 1 := ⟨k - 1, by omega⟩
    have hkb : ((j : Int) + 1 == 0) = false := by simp; omega
    have H := Lib.hid (HI.out j rfl)
    have hdj : dN (j + 1) = 3 + 3 * dN j := rfl
    have hnj : nN (j + 1) = 1 + 3 * nN j := rfl
    have HD := Lib.hid (And.intro hdj hnj)
    have hdj1 : p + 3 + 3 * dN j ≤ 999990 := by omega
    clear hk0 HI hdj hnj hp hd
    by_cases h5 : r < 5
    · have hq5 : 0 ≤ r := hr0
      go_wp2_with fail
      refine (H.out _ g (p + 1) below HR1.out (by omega) hb0 hb1).mono ?_
      rintro e w2 ⟨t1, a1, c1, p2, rfl, hat1, ok1, ok1', hf1, hm1, hp0, hp1, hrd, ho⟩
      have hsz_w2 := ho.size
      have HE2 := Lib.hid (And.intro hrd (And.intro (HO1.out.trans ho) (HK1.out.only ho hgn)))
      have HT1 := Lib.hid (And.intro ok1 (And.intro ok1' hat1))
      have HF1 := Lib.hid hf1
      clear hrd ho hat1 x0 x1 x2 f0 f1 f2 ok1 ok1' hf1
      go_wp2_with fail
      refine (H.out _ g p2 below HE2.out.1 (by omega) hb0 hb1).mono ?_
      rintro e w3 ⟨t2, a2, c2, p3, rfl, hat2, ok2, ok2', hf2, hm2, hp2, hp3, hrd, ho⟩
      have hsz_w3 := ho.size
      have HE3 := Lib.hid (And.intro hrd (And.intro (HE2.out.2.1.trans ho) (HE2.out.2.2.only ho hgn)))
      have hz2 := HE2.out.2.2.lt
      have HT2 := Lib.hid (And.intro ok2 (And.intro ok2' hat2))
      have HT1' := Lib.hid (And.intro HT1.out.1 (And.intro HT1.out.2.1 (HT1.out.2.2.only (g := g) (by intro b hb; omega) ho)))
      have HF2 := Lib.hid hf2
      clear hrd ho hat2 ok2 ok2' hf2 HT1
      obtain ⟨y0, y1, y2, g0, g1, g2⟩ := HE3.out.2.2.three
      have hz3 := HE3.out.2.2.lt
      go_wp2_with fail
      refine bodyPost_ret (v := .agg #[.int .i64 2, .int .i64 0, .slice (some ⟨w3.heap.size, 0, none⟩) 2 2]) (by simp [results, Try.results122, go_sem, y0, y1, y2, hz3]) rfl ?_
      exact drewT_node [(t1, a1, c1), (t2, a2, c2)] [t1, t2] rfl _ rfl hgl hz3 HE3.out.2.1 HE3.out.1 (parted2 HT1'.out HT2.out (by intro b hb; omega) (by intro b hb; omega) (by intro b hb; omega)) (by simp [i64ok]) (by simp [i64ok]) (fit_two 2 (by simp) _ _ HF1.out HF2.out)
        (by have := HD.out.2; simp only [T.nodes, nodesL]; omega) (by simp) (by omega) (by have := HD.out.1; omega)
    by_cases h6 : r = 5
    · have h6b : (r == 5) = true := by simp [h6]
      clear h6
      go_wp2_with fail
      refine (H.out _ g (p + 1) below HR1.out (by omega) hb0 hb1).mono ?_
      rintro e w2 ⟨t1, a1, c1, p2, rfl, hat1, ok1, ok1', hf1, hm1, hp0, hp1, hrd, ho⟩
      have hsz_w2 := ho.size
      have HE2 := Lib.hid (And.intro hrd (And.intro (HO1.out.trans ho) (HK1.out.only ho hgn)))
      have HT1 := Lib.hid (And.intro ok1 (And.intro ok1' hat1))
      have HF1 := Lib.hid hf1
      clear hrd ho hat1 x0 x1 x2 f0 f1 f2 ok1 ok1' hf1
      go_wp2_with fail
      refine (H.out _ g p2 below HE2.out.1 (by omega) hb0 hb1).mono ?_
      rintro e w3 ⟨t2, a2, c2, p3, rfl, hat2, ok2, ok2', hf2, hm2, hp2, hp3, hrd, ho⟩
      have hsz_w3 := ho.size
      have HE3 := Lib.hid (And.intro hrd (And.intro (HE2.out.2.1.trans ho) (HE2.out.2.2.only ho hgn)))
      have hz2 := HE2.out.2.2.lt
      have HT2 := Lib.hid (And.intro ok2 (And.intro ok2' hat2))
      have HT1' := Lib.hid (And.intro HT1.out.1 (And.intro HT1.out.2.1 (HT1.out.2.2.only (g := g) (by intro b hb; omega) ho)))
      have HF2 := Lib.hid hf2
      clear hrd ho hat2 ok2 ok2' hf2 HT1
      obtain ⟨y0, y1, y2, g0, g1, g2⟩ := HE3.out.2.2.three
      have hz3 := HE3.out.2.2.lt
      go_wp2_with fail
      refine bodyPost_ret (v := .agg #[.int .i64 3, .int .i64 0, .slice (some ⟨w3.heap.size, 0, none⟩) 2 2]) (by simp [results, Try.results122, go_sem, y0, y1, y2, hz3]) rfl ?_
      exact drewT_node [(t1, a1, c1), (t2, a2, c2)] [t1, t2] rfl _ rfl hgl hz3 HE3.out.2.1 HE3.out.1 (parted2 HT1'.out HT2.out (by intro b hb; omega) (by intro b hb; omega) (by intro b hb; omega)) (by simp [i64ok]) (by simp [i64ok]) (fit_two 3 (by simp) _ _ HF1.out HF2.out)
        (by have := HD.out.2; simp only [T.nodes, nodesL]; omega) (by simp) (by omega) (by have := HD.out.1; omega)
    have h6b : (r == 5) = false := by simpa using h6
    by_cases h8 : r < 8
    · have hq8 : 0 ≤ r := hr0
      go_wp2_with fail
      refine (H.out _ g (p + 1) below HR1.out (by omega) hb0 hb1).mono ?_
      rintro e w2 ⟨t1, a1, c1, p2, rfl, hat1, ok1, ok1', hf1, hm1, hp0, hp1, hrd, ho⟩
      have hsz_w2 := ho.size
      have HE2 := Lib.hid (And.intro hrd (And.intro (HO1.out.trans ho) (HK1.out.only ho hgn)))
      have HT1 := Lib.hid (And.intro ok1 (And.intro ok1' hat1))
      have HF1 := Lib.hid hf1
      clear hrd ho hat1 x0 x1 x2 f0 f1 f2 ok1 ok1' hf1
      go_wp2_with fail
      refine (H.out _ g p2 below HE2.out.1 (by omega) hb0 hb1).mono ?_
      rintro e w3 ⟨t2, a2, c2, p3, rfl, hat2, ok2, ok2', hf2, hm2, hp2, hp3, hrd, ho⟩
      have hsz_w3 := ho.size
      have HE3 := Lib.hid (And.intro hrd (And.intro (HE2.out.2.1.trans ho) (HE2.out.2.2.only ho hgn)))
      have hz2 := HE2.out.2.2.lt
      have HT2 := Lib.hid (And.intro ok2 (And.intro ok2' hat2))
      have HT1' := Lib.hid (And.intro HT1.out.1 (And.intro HT1.out.2.1 (HT1.out.2.2.only (g := g) (by intro b hb; omega) ho)))
      have HF2 := Lib.hid hf2
      clear hrd ho hat2 ok2 ok2' hf2 HT1
      go_wp2_with fail
      refine (H.out _ g p3 below HE3.out.1 (by omega) hb0 hb1).mono ?_
      rintro e w4 ⟨t3, a3, c3, p4, rfl, hat3, ok3, ok3', hf3, hm3, hp4, hp5, hrd, ho⟩
      have hsz_w4 := ho.size
      have HE4 := Lib.hid (And.intro hrd (And.intro (HE3.out.2.1.trans ho) (HE3.out.2.2.only ho hgn)))
      have hz3 := HE3.out.2.2.lt
      have HT3 := Lib.hid (And.intro ok3 (And.intro ok3' hat3))
      have HT1'' := Lib.hid (And.intro HT1'.out.1 (And.intro HT1'.out.2.1 (HT1'.out.2.2.only (g := g) (by intro b hb; omega) ho)))
      have HT2' := Lib.hid (And.intro HT2.out.1 (And.intro HT2.out.2.1 (HT2.out.2.2.only (g := g) (by intro b hb; omega) ho)))
      have HF3 := Lib.hid hf3
      clear hrd ho hat3 ok3 ok3' hf3 HT1' HT2
      obtain ⟨y0, y1, y2, g0, g1, g2⟩ := HE4.out.2.2.three
      have hz4 := HE4.out.2.2.lt
      go_wp2_with fail
      refine bodyPost_ret (v := .agg #[.int .i64 4, .int .i64 0, .slice (some ⟨w4.heap.size, 0, none⟩) 3 3]) (by simp [results, Try.results122, go_sem, y0, y1, y2, hz4]) rfl ?_
      exact drewT_node [(t1, a1, c1), (t2, a2, c2), (t3, a3, c3)] [t1, t2, t3] rfl _ rfl hgl hz4 HE4.out.2.1 HE4.out.1 (parted3 HT1''.out HT2'.out HT3.out (by intro b hb; omega) (by intro b hb; omega) (by intro b hb; omega) (by intro b hb; omega) (by intro b hb; omega) (by intro b hb; omega)) (by simp [i64ok]) (by simp [i64ok]) (fit_three _ _ _ HF1.out HF2.out HF3.out)
        (by have := HD.out.2; simp only [T.nodes, nodesL]; omega) (by simp) (by omega) (by have := HD.out.1; omega)
    go_wp2_with fail
    refine (pick_any _ g (p + 1) 3 HR1.out (by omega) (by omega) (by omega)).mono ?_
    rintro e w1' ⟨r', rfl, hr0', hr1', hrd, ho⟩
    have HR1' := Lib.hid hrd
    have HO1' := Lib.hid (HO1.out.trans ho)
    have HK1' := Lib.hid (HK1.out.only ho hgn)
    clear hrd ho hr1' HR1 HO1 HK1 x0 x1 x2 f0 f1 f2
    have HR1 := HR1'
    have HO1 := HO1'
    have HK1 := HK1'
    have hz1 := HK1.out.lt
    obtain ⟨x0, x1, x2, f0, f1, f2⟩ := HK1.out.three
    by_cases hz : 0 < r'
    · have hq9 : 0 ≤ r := hr0
      go_wp2_with fail
      refine (H.out _ g (p + 1 + 1) below HR1.out (by omega) hb0 hb1).mono ?_
      rintro e w2 ⟨t1, a1, c1, p2, rfl, hat1, ok1, ok1', hf1, hm1, hp0, hp1, hrd, ho⟩
      have hsz_w2 := ho.size
      have HE2 := Lib.hid (And.intro hrd (And.intro (HO1.out.trans ho) (HK1.out.only ho hgn)))
      have HT1 := Lib.hid (And.intro ok1 (And.intro ok1' hat1))
      have HF1 := Lib.hid hf1
      clear hrd ho hat1 x0 x1 x2 f0 f1 f2 ok1 ok1' hf1
      go_wp2_with fail
      refine (H.out _ g p2 below HE2.out.1 (by omega) hb0 hb1).mono ?_
      rintro e w3 ⟨t2, a2, c2, p3, rfl, hat2, ok2, ok2', hf2, hm2, hp2, hp3, hrd, ho⟩
      have hsz_w3 := ho.size
      have HE3 := Lib.hid (And.intro hrd (And.intro (HE2.out.2.1.trans ho) (HE2.out.2.2.only ho hgn)))
      have hz2 := HE2.out.2.2.lt
      have HT2 := Lib.hid (And.intro ok2 (And.intro ok2' hat2))
      have HT1' := Lib.hid (And.intro HT1.out.1 (And.intro HT1.out.2.1 (HT1.out.2.2.only (g := g) (by intro b hb; omega) ho)))
      have HF2 := Lib.hid hf2
      clear hrd ho hat2 ok2 ok2' hf2 HT1
      go_wp2_with fail
      refine (H.out _ g p3 below HE3.out.1 (by omega) hb0 hb1).mono ?_
      rintro e w4 ⟨t3, a3, c3, p4, rfl, hat3, ok3, ok3', hf3, hm3, hp4, hp5, hrd, ho⟩
      have hsz_w4 := ho.size
      have HE4 := Lib.hid (And.intro hrd (And.intro (HE3.out.2.1.trans ho) (HE3.out.2.2.only ho hgn)))
      have hz3 := HE3.out.2.2.lt
      have HT3 := Lib.hid (And.intro ok3 (And.intro ok3' hat3))
      have HT1'' := Lib.hid (And.intro HT1'.out.1 (And.intro HT1'.out.2.1 (HT1'.out.2.2.only (g := g) (by intro b hb; omega) ho)))
      have HT2' := Lib.hid (And.intro HT2.out.1 (And.intro HT2.out.2.1 (HT2.out.2.2.only (g := g) (by intro b hb; omega) ho)))
      have HF3 := Lib.hid hf3
      clear hrd ho hat3 ok3 ok3' hf3 HT1' HT2
      obtain ⟨y0, y1, y2, g0, g1, g2⟩ := HE4.out.2.2.three
      have hz4 := HE4.out.2.2.lt
      go_wp2_with fail
      refine bodyPost_ret (v := .agg #[.int .i64 4, .int .i64 0, .slice (some ⟨w4.heap.size, 0, none⟩) 3 3]) (by simp [results, Try.results122, go_sem, y0, y1, y2, hz4]) rfl ?_
      exact drewT_node [(t1, a1, c1), (t2, a2, c2), (t3, a3, c3)] [t1, t2, t3] rfl _ rfl hgl hz4 HE4.out.2.1 HE4.out.1 (parted3 HT1''.out HT2'.out HT3.out (by intro b hb; omega) (by intro b hb; omega) (by intro b hb; omega) (by intro b hb; omega) (by intro b hb; omega) (by intro b hb; omega)) (by simp [i64ok]) (by simp [i64ok]) (fit_three _ _ _ HF1.out HF2.out HF3.out)
        (by have := HD.out.2; simp only [T.nodes, nodesL]; omega) (by simp) (by omega) (by have := HD.out.1; omega)
    · have hq9 : 0 ≤ r := hr0
      go_wp2_with fail
      refine (pick_any _ g (p + 2) 10 HR1.out (by omega) (by omega) (by omega)).mono ?_
      rintro e w2 ⟨r3, rfl, hr30, hr31, hrd, ho⟩
      have hr39 := hr31 (by omega)
      have HE2 := Lib.hid (And.intro hrd (And.intro (HO1.out.trans ho) (HK1.out.only ho hgn)))
      clear hrd ho hr31 x0 x1 x2 f0 f1 f2
      go_wp2_with fail
      refine (H.out _ g (p + 2 + 1) below HE2.out.1 (by omega) hb0 hb1).mono ?_
      rintro e w3 ⟨t1, a1, c1, p2, rfl, hat1, ok1, ok1', hf1, hm1, hp0, hp1, hrd, ho⟩
      have hsz_w3 := ho.size
      have hz2 := HE2.out.2.2.lt
      have HE3 := Lib.hid (And.intro hrd (And.intro (HE2.out.2.1.trans ho) (HE2.out.2.2.only ho hgn)))
      have HT1 := Lib.hid (And.intro ok1 (And.intro ok1' hat1))
      have HF1 := Lib.hid hf1
      clear hrd ho hat1 ok1 ok1' hf1
      obtain ⟨y0, y1, y2, g0, g1, g2⟩ := HE3.out.2.2.three
      have hz3 := HE3.out.2.2.lt
      go_wp2_with fail
      refine bodyPost_ret (v := .agg #[.int .i64 5, .int .i64 r3, .slice (some ⟨w3.heap.size, 0, none⟩) 1 1]) (by simp [results, Try.results122, go_sem, y0, y1, y2, hz3]) rfl ?_
      exact drewT_node [(t1, a1, c1)] [t1] rfl _ rfl hgl hz3 HE3.out.2.1 HE3.out.1 (parted1 HT1.out (by intro b hb; omega)) (by simp [i64ok]) (by simp [i64ok]; omega) (fit_at _ hr30 (by omega) _ HF1.out)
        (by have := HD.out.2; simp only [T.nodes, nodesL]; omega) (by simp) (by omega) (by have := HD.out.1; omega)

theorem dtask_all : ∀ k, k ≤ 3 → DTask k
  | 0, h => dtask_of 0 (fun j hj => by omega) h
  | k + 1, h => dtask_of (k + 1) (fun j hj => by obtain rfl : k = j := by omega
                                                 exact dtask_all k (by omega)) h

end Go.Proofs.Ytklmpagpkeffjaa

/- l91Num, l91Fit, l91Any, l6Open -/
namespace Go.Proofs.Ytklmpagpkeffjaa
open Go.RowKit

/-- l91Num: one of some numbers. -/
theorem num_any (w : World) (g p lb n : Nat) (lo hi : Int) (vs : Nat → Int) (hr : RdAt w g p) (hp : p ≤ 999990) (hn : 1 ≤ n) (hn' : n ≤ 10) (hg : lb ≠ g) (hv : ∀ i, i < n → w.cell? ⟨lb, i, none⟩ = some (.int .i64 (vs i)) ∧ lo ≤ vs i ∧ vs i ≤ hi) :
    Calls Try.prog 97 #[.pointer (some ⟨g, 0, none⟩), .slice (some ⟨lb, 0, none⟩) n n] w (Drew g p 1 lo hi w) := by
  have HR := Lib.hid hr
  have HV := Lib.hid hv
  clear hr hv
  go_enter Try.func97, Try.ntmps97
  go_wp2_with fail
  refine (pick_any _ g p n HR.out (by omega) (by omega) (by omega)).mono ?_
  rintro e w1 ⟨r, rfl, hr0, hr1, hrd, ho⟩
  have hrn := hr1 (by omega)
  obtain ⟨q, rfl⟩ : ∃ q : Nat, r = q := ⟨r.toNat, by omega⟩
  have hq : q < n := by omega
  obtain ⟨hc, h1, h2⟩ := HV.out q hq
  have hc' := ho.cell hc (by simpa using fun e => hg e)
  have HE := Lib.hid (And.intro hrd ho)
  clear hrd ho hr1 hc
  go_wp2_with fail
  go_ret
  exact ⟨vs q, p + 1, rfl, h1, h2, by omega, by omega, HE.out.1, HE.out.2⟩

def set3 (w : World) (R : Nat) (x y z : Value) : World := ((w.setCell ⟨R, 0, none⟩ x).setCell ⟨R, 1, none⟩ y).setCell ⟨R, 2, none⟩ z
theorem set3_heap (w : World) (R : Nat) (x y z : Value) (k : Nat) (hk : k ≠ R) : (set3 w R x y z).heap[k]? = w.heap[k]? := by
  unfold set3
  rw [Below.heap_setCell _ _ _ _ (by simpa using hk), Below.heap_setCell _ _ _ _ (by simpa using hk), Below.heap_setCell _ _ _ _ (by simpa using hk)]
theorem set3_size (w : World) (R : Nat) (x y z : Value) : (set3 w R x y z).heap.size = w.heap.size := by simp [set3, World.setCell]
theorem RdAt.set3 {w : World} {g p R : Nat} (h : RdAt w g p) (hR : g < R) (x y z : Value) : RdAt (set3 w R x y z) g p := h.keep fun k hk => set3_heap _ _ _ _ _ _ (by omega)
theorem Only.set3 {w w2 : World} {g R : Nat} (h : Only g w w2) (hR : w.heap.size ≤ R) (x y z : Value) : Only g w (set3 w2 R x y z) := ((h.set (.inr hR) _).set (.inr hR) _).set (.inr hR) _
theorem OwS.set3 {w : World} {e : TypeId} {F : Nat → Prop} {ps : List T} {a : Option Addr} {c R : Nat} (h : OwS w e F ps a c) (hR : ∀ b, F b → b ≠ R) (x y z : Value) : OwS (set3 w R x y z) e F ps a c :=
  h.keep (fun _ h => h) (fun b hb _ => set3_heap _ _ _ _ _ _ (hR b hb))

/-- A task that is one was drawn. -/
def DrewF (g p d : Nat) (w : World) (e : Ending) (w' : World) : Prop := ∃ (t : T) (a : Option Addr) (c p' : Nat), e = .returned (.agg #[.int .i64 t.k, .int .i64 t.n, .slice a t.ps.length c]) ∧ OwS w' 42 (fun b => w.heap.size ≤ b ∧ b < w'.heap.size) t.ps a c ∧
  i64ok t.k ∧ i64ok t.n ∧ t.ok = true ∧ p ≤ p' ∧ p' ≤ p + d ∧ RdAt w' g p' ∧ Only g w w'

theorem ok_get (n : Int) (h0 : 0 ≤ n) (h1 : n ≤ 9) : (T.mk 1 n []).ok = true := by unfold T.ok; rw [fit_get n h0 h1]; rfl

set_option maxHeartbeats 1000000 in
theorem fit_any (w : World) (g p : Nat) (below : Int) (hr : RdAt w g p) (hp : p ≤ 999000) (hb0 : 0 ≤ below) (hb1 : below ≤ 10) :
    Calls Try.prog 92 #[.pointer (some ⟨g, 0, none⟩), .int .i64 below] w (DrewF g p 40 w) := by
  have hgl := hr.lt
  have hgn : w.heap.size ≠ g := by omega
  have HR := Lib.hid (hr.alloc (.cells #[.int .i64 0, .int .i64 0, .slice none 0 0] 42))
  clear hr
  go_enter Try.func92, Try.ntmps92
  go_wp2_with fail
  refine (dtask_all 2 (by omega) _ g p below HR.out (by simp [dN]; omega) hb0 hb1).mono ?_
  rintro e w1 ⟨t, a, c, p', rfl, hat, ok1, ok2, hf, hm, hp0, hp1, hrd, ho⟩
  have hp1' : p' ≤ p + 39 := hp1
  have hm' : t.nodes ≤ 13 := hm
  have hsz := ho.size
  simp only [World.size_alloc] at hsz
  have hK1 : Blk w1 w.heap.size 42 #[.int .i64 0, .int .i64 0, .slice none 0 0] := (Blk.new w 42 #[.int .i64 0, .int .i64 0, .slice none 0 0]).only ho hgn
  have HK1 := Lib.hid (hK1.alloc (.cells #[.int .i64 t.k, .int .i64 t.n, .slice a t.ps.length c] 42))
  have HB1 := Lib.hid (Blk.new w1 42 #[.int .i64 t.k, .int .i64 t.n, .slice a t.ps.length c])
  have HT1 := Lib.hid (hat.alloc (.cells #[.int .i64 t.k, .int .i64 t.n, .slice a t.ps.length c] 42))
  have HE1 := Lib.hid (And.intro (hrd.alloc (.cells #[.int .i64 t.k, .int .i64 t.n, .slice a t.ps.length c] 42)) ((((Only.refl g w).alloc (.cells #[.int .i64 0, .int .i64 0, .slice none 0 0] 42)).trans ho).alloc (.cells #[.int .i64 t.k, .int .i64 t.n, .slice a t.ps.length c] 42)))
  have HOK := Lib.hid (And.intro ok1 ok2)
  have hnl : nodesL t.ps ≤ 1048576 := by have := t.nodes_eq; omega
  clear hat hrd ho hf hm hp1 hK1 ok1 ok2
  go_wp2_with fail
  refine (specOk_any t _ _ a c HT1.out.at hnl).mono ?_
  rintro e w2 ⟨rfl, hb⟩
  have hsz2 := hb.size
  simp only [World.size_alloc] at hsz2
  have HK2 := Lib.hid (HK1.out.below hb (by simp; omega))
  have HB2 := Lib.hid (HB1.out.below hb (by simp))
  have HT2 := Lib.hid (HT1.out.below hb)
  have HE2 := Lib.hid (And.intro (HE1.out.1.below hb) (HE1.out.2.trans (.of_below hb)))
  obtain ⟨x0, x1, x2, f0, f1, f2⟩ := HK2.out.three
  obtain ⟨y0, y1, y2, g0, g1, g2⟩ := HB2.out.three
  have hne1 : w1.heap.size ≠ w.heap.size := by omega
  clear hb HK1 HB1 HT1 HE1
  cases hok : t.ok
  · have HOKB := Lib.hid hok
    clear hok
    go_wp2_with fail
    refine (pick_any _ g p' 10 HE2.out.1 (by omega) (by omega) (by omega)).mono ?_
    rintro e w3 ⟨r, rfl, hr0, hr1, hrd, ho⟩
    have hr9 := hr1 (by omega)
    have HK3 := Lib.hid (HK2.out.only ho hgn)
    have HE3 := Lib.hid (And.intro hrd (HE2.out.2.trans ho))
    clear hrd ho hr1 x0 x1 x2 f0 f1 f2 y0 y1 y2 g0 g1 g2
    obtain ⟨x0, x1, x2, f0, f1, f2⟩ := HK3.out.three
    go_wp2_with fail
    refine bodyPost_ret (v := .agg #[.int .i64 1, .int .i64 r, .slice none 0 0]) (by simp [results, Try.results92, go_sem, x0, x1, x2]) rfl ?_
    exact ⟨.mk 1 r [], none, 0, p' + 1, rfl, OwS.nil, by simp [T.k, i64ok], by simp [T.n, i64ok]; omega, ok_get _ hr0 (by omega), by omega, by omega, HE3.out.1.set3 hgl _ _ _, HE3.out.2.set3 (Nat.le_refl _) _ _ _⟩
  · have HOKB := Lib.hid hok
    clear hok
    go_wp2_with fail
    refine bodyPost_ret (v := .agg #[.int .i64 t.k, .int .i64 t.n, .slice a t.ps.length c]) (by simp [results, Try.results92, go_sem, x0, x1, x2]) rfl ?_
    refine ⟨t, a, c, p', rfl, (HT2.out.set3 (R := w.heap.size) (by intro b hb; simp at hb; omega) _ _ _).weaken ?_, HOK.out.1, HOK.out.2, HOKB.out, by omega, by omega, HE2.out.1.set3 hgl _ _ _, HE2.out.2.set3 (Nat.le_refl _) _ _ _⟩
    intro b hb
    simp only [World.size_alloc] at hb
    have := set3_size w2 w.heap.size (.int .i64 t.k) (.int .i64 t.n) (.slice a t.ps.length c)
    unfold set3 at this
    omega

end Go.Proofs.Ytklmpagpkeffjaa

/- l91Any, l6Open -/
namespace Go.Proofs.Ytklmpagpkeffjaa
open Go.RowKit

/-- Some task was drawn, be it one or not. -/
def DrewA (g p d : Nat) (w : World) (e : Ending) (w' : World) : Prop := ∃ (t : T) (a : Option Addr) (c p' : Nat), e = .returned (.agg #[.int .i64 t.k, .int .i64 t.n, .slice a t.ps.length c]) ∧ OwS w' 42 (fun b => w.heap.size ≤ b ∧ b < w'.heap.size) t.ps a c ∧
  i64ok t.k ∧ i64ok t.n ∧ t.nodes ≤ 100 ∧ p ≤ p' ∧ p' ≤ p + d ∧ RdAt w' g p' ∧ Only g w w'

theorem anyEnd {w w5 : World} {g p p' d : Nat} {F : Nat → Prop} {t : T} {a : Option Addr} {c : Nat} (hgl : g < w.heap.size) (hR : RdAt w5 g p') (hO : Only g w w5) (how : OwS w5 42 F t.ps a c) (hF : ∀ b, F b → w.heap.size < b ∧ b < w5.heap.size)
    (ok1 : i64ok t.k) (ok2 : i64ok t.n) (hm : t.nodes ≤ 100) (h1 : p ≤ p') (h2 : p' ≤ p + d) :
    DrewA g p d w (.returned (.agg #[.int .i64 t.k, .int .i64 t.n, .slice a t.ps.length c])) (set3 w5 w.heap.size (.int .i64 t.k) (.int .i64 t.n) (.slice a t.ps.length c)) :=
  ⟨t, a, c, p', rfl, (how.set3 (fun b hb => by have := hF b hb; omega) _ _ _).weaken (fun b hb => by have := hF b hb; rw [set3_size]; omega), ok1, ok2, hm, h1, h2, hR.set3 hgl _ _ _, hO.set3 (Nat.le_refl _) _ _ _⟩

end Go.Proofs.Ytklmpagpkeffjaa

/- l6Open; DrawTaskNodes -/
namespace Go.Proofs.Ytklmpagpkeffjaa
open Go.RowKit

/-- A code that came in. -/
def CodeAt (w : World) (a : Option Addr) (n c : Nat) : Prop := n ≤ c ∧ c ≤ 9223372036854775807 ∧ (n = 0 ∨ ∃ b o, a = some ⟨b, o, none⟩ ∧ b < w.heap.size ∧ ∀ i, i < n → ∃ v : Int, 0 ≤ v ∧ v ≤ 255 ∧ w.cell? ⟨b, o + i, none⟩ = some (.int .u8 v))
theorem CodeAt.below {w w' : World} {a : Option Addr} {n c : Nat} (h : CodeAt w a n c) (hb : Below w.heap.size w w') : CodeAt w' a n c := by
  obtain ⟨h1, h2, h3⟩ := h
  refine ⟨h1, h2, ?_⟩
  rcases h3 with h3 | ⟨b, o, ha, hlt, hv⟩
  · exact .inl h3
  · refine .inr ⟨b, o, ha, Nat.lt_of_lt_of_le hlt hb.size, fun i hi => ?_⟩
    obtain ⟨v, v0, v1, hc⟩ := hv i hi
    exact ⟨v, v0, v1, (hb.cell (p := ⟨b, o + i, none⟩) hlt).trans hc⟩
theorem CodeAt.alloc {w : World} {a : Option Addr} {n c : Nat} (h : CodeAt w a n c) (o : Obj) : CodeAt (w.alloc o) a n c := h.below ((Below.refl _ _).alloc (Nat.le_refl _) o)

def Opened (w : World) (e : Ending) (w' : World) : Prop := e = .returned (.pointer (some ⟨w.heap.size, 0, none⟩)) ∧ RdAt w' w.heap.size 0 ∧ Below w.heap.size w w'

theorem rd_new {w : World} {a : Option Addr} {n m c : Nat} {t : TypeId} (h : CodeAt w a n c) (hm : m ≤ 2000) (hmn : m ≤ n) : RdAt (w.alloc (.cells #[.slice a m c, .int .i64 0] t)) w.heap.size 0 := by
  obtain ⟨h1, h2, h3⟩ := h
  have hb := Blk.new w t #[.slice a m c, .int .i64 0]
  refine ⟨a, m, c, hm, by omega, h2, hb.cell 0, hb.cell 1, hb.frozen 1, ?_⟩
  rcases h3 with h3 | ⟨b, o, ha, hlt, hv⟩
  · exact .inl (by omega)
  · refine .inr ⟨b, o, ha, hlt, fun i hi => ?_⟩
    obtain ⟨v, v0, v1, hc⟩ := hv i (by omega)
    exact ⟨v, v0, v1, (((Below.refl w.heap.size w).alloc (Nat.le_refl _) _).cell (p := ⟨b, o + i, none⟩) hlt).trans hc⟩

theorem open_any (w : World) (a : Option Addr) (n c : Nat) (h : CodeAt w a n c) : Calls Try.prog 45 #[.slice a n c] w (Opened w) := by
  have hn := h.1
  have hc := h.2.1
  by_cases hl : 2000 < n
  · obtain ⟨b, o, rfl, hlt, hv⟩ : ∃ b o, a = some ⟨b, o, none⟩ ∧ b < w.heap.size ∧ ∀ i, i < n → ∃ v : Int, 0 ≤ v ∧ v ≤ 255 ∧ w.cell? ⟨b, o + i, none⟩ = some (.int .u8 v) := by
      rcases h.2.2 with h | h
      · omega
      · exact h
    have H := Lib.hid (rd_new (m := 2000) (t := 115) h (by omega) (by omega))
    clear h hv
    go_enter Try.func45, Try.ntmps45
    go_wp2_with fail
    go_ret
    exact ⟨rfl, H.out, (Below.refl _ _).alloc (Nat.le_refl _) _⟩
  · have H := Lib.hid (rd_new (m := n) (t := 115) h (by omega) (by omega))
    clear h
    go_enter Try.func45, Try.ntmps45
    go_wp2_with fail
    go_ret
    exact ⟨rfl, H.out, (Below.refl _ _).alloc (Nat.le_refl _) _⟩

/-- A task drawn off a code. -/
def DrawnT (w : World) (e : Ending) (w' : World) : Prop := ∃ (t : T) (a : Option Addr) (c : Nat), e = .returned (.agg #[.int .i64 t.k, .int .i64 t.n, .slice a t.ps.length c]) ∧ OwS w' 42 (fun b => w.heap.size ≤ b ∧ b < w'.heap.size) t.ps a c ∧
  i64ok t.k ∧ i64ok t.n ∧ t.nodes ≤ 100 ∧ Below w.heap.size w w'


end Go.Proofs.Ytklmpagpkeffjaa

/- a code that came in, opened -/
namespace Go.Proofs.Ytklmpagpkeffjaa
open Go.ChangeShapes Go.WideShapes Go.ChangeAt Go.RowKit Go.Joins

theorem cellsByte : Try.prog.cellsOf 5 = 1 := by kernel_rfl

theorem u8_of {v : Int} (h : (Lit.int .u8 v).wf = true) : 0 ≤ v ∧ v ≤ 255 := by
  have h1 : IntKind.u8.min = 0 := by decide
  have h2 : IntKind.u8.max = 255 := by decide
  simp [Lit.wf] at h
  omega

/-- A code that came in, opened. -/
theorem open_code {H : Type} {enc : TypeId × Value → H} {P : Program} {w : World} {spare : Nat → Bool} {held : Bool} {tS tE : TypeId} (hS : P.underlying tS = some (.slice tE)) (hE : P.underlying tE = some (.int .u8)) (hC : P.cellsOf tE = 1)
    {v : Value} {d : DataW H} {p : List MemPlace} (hv : ∃ a n c, v = .slice a n c) (h : DataW.Trod enc P w 0 spare held tS v d p) : ∃ a n c, v = .slice a n c ∧ CodeAt w a n c := by
  obtain ⟨a, n, c, rfl⟩ := hv
  obtain ⟨fuel, hf⟩ := h
  rcases open_ints hS hE hC hf with ⟨hcs, _⟩ | ⟨a', len', cap', zs, hcs, _, hl, hm, hz, _, hcell, hwz⟩
  · simp [Value.cells] at hcs
    obtain ⟨rfl, rfl, rfl⟩ := hcs
    exact ⟨none, 0, 0, rfl, by simp [CodeAt]⟩
  · simp [Value.cells] at hcs
    obtain ⟨rfl, rfl, rfl⟩ := hcs
    have hm' : c ≤ 9223372036854775807 := hm
    have hzl : n ≤ zs.length := by rw [hz]; split <;> omega
    by_cases h0 : n = 0
    · exact ⟨_, _, _, rfl, hl, hm', .inl h0⟩
    obtain ⟨b, o, rfl, hc⟩ := ints_at hcell (by omega)
    have hb : b < w.heap.size := cell_lt (by simpa using hc 0 (by omega))
    refine ⟨_, _, _, rfl, hl, hm', .inr ⟨b, o, rfl, hb, fun i hi => ?_⟩⟩
    have hw := u8_of (hwz (zs.getD i 0) (by rw [List.getD_eq_getElem?_getD, List.getElem?_eq_getElem (by omega)]; simp))
    exact ⟨zs.getD i 0, hw.1, hw.2, hc i (by omega)⟩

end Go.Proofs.Ytklmpagpkeffjaa

/- what l91Lower makes of a task (pure), and one element turned in a list of the call's own -/
namespace Go.Proofs.Ytklmpagpkeffjaa
open Go.RowKit

mutual
def T.low : T → T | .mk k n ps => if k = 5 then headLow (.mk k n []) ps else .mk k n (lowL ps)
def lowL : List T → List T | [] => [] | t :: r => t.low :: lowL r
def headLow (d : T) : List T → T | [] => d | t :: _ => t.low
end
theorem lowL_map : ∀ ps : List T, lowL ps = ps.map T.low
  | [] => by simp [lowL]
  | t :: r => by simp only [lowL, List.map_cons, lowL_map r]

mutual
theorem T.low_nodes : ∀ t : T, t.low.nodes ≤ t.nodes
  | .mk k n ps => by
    have h1 := lowL_nodes ps
    have h2 := headLow_nodes ps (.mk k n [])
    simp only [T.low]
    split
    · simp only [T.nodes, nodesL] at h2 ⊢; omega
    · simp only [T.nodes]; omega
theorem lowL_nodes : ∀ ps : List T, nodesL (lowL ps) ≤ nodesL ps
  | [] => by simp [lowL, nodesL]
  | t :: r => by have := T.low_nodes t; have := lowL_nodes r; simp only [lowL, nodesL]; omega
theorem headLow_nodes : ∀ (ps : List T) (d : T), (headLow d ps).nodes ≤ d.nodes + nodesL ps
  | [], d => by simp [headLow, nodesL]
  | t :: r, d => by have := T.low_nodes t; simp only [headLow, nodesL]; omega
end

theorem nodes_mem : ∀ {ps : List T} {p : T}, p ∈ ps → p.nodes ≤ nodesL ps
  | t :: r, p, h => by
    rcases List.mem_cons.1 h with rfl | h
    · simp only [nodesL]; omega
    · have := nodes_mem h; simp only [nodesL]; omega
theorem fitL_mem : ∀ {ps : List T} {p : T}, fitL ps = true → p ∈ ps → p.fit = true
  | t :: r, p, hf, h => by
    simp only [fitL, Bool.and_eq_true] at hf
    rcases List.mem_cons.1 h with rfl | h
    · exact hf.1
    · exact fitL_mem hf.2 h
theorem fit_five {n : Int} {ps : List T} (h : (T.mk 5 n ps).fit = true) : ∃ p, ps = [p] := by
  simp only [T.fit, fit1, Bool.and_eq_true, decide_eq_true_eq] at h
  have h1 := h.1.1.2
  simp [shp] at h1
  match ps, h1 with
  | [p], _ => exact ⟨p, rfl⟩

/-- The list when the first i elements are done. -/
def lowTo (ps : List T) (i : Nat) : List T := (ps.take i).map T.low ++ ps.drop i
theorem lowTo_len (ps : List T) (i : Nat) (h : i ≤ ps.length) : (lowTo ps i).length = ps.length := by unfold lowTo; simp; omega
theorem lowTo_zero (ps : List T) : lowTo ps 0 = ps := by simp [lowTo]
theorem lowTo_all (ps : List T) : lowTo ps ps.length = lowL ps := by rw [lowL_map]; simp [lowTo]
theorem lowTo_get (ps : List T) (i : Nat) (h : i < ps.length) (h' : i < (lowTo ps i).length) : (lowTo ps i)[i] = ps[i] := by
  apply Option.some.inj
  rw [← List.getElem?_eq_getElem h', ← List.getElem?_eq_getElem h]
  unfold lowTo
  have hl : (List.map T.low (ps.take i)).length = i := by simp; omega
  rw [List.getElem?_append_right (by omega), hl]
  simp
theorem lowTo_step (ps : List T) (i : Nat) (h : i < ps.length) : (lowTo ps i).set i ps[i].low = lowTo ps (i + 1) := by
  unfold lowTo
  have hl : (List.map T.low (ps.take i)).length = i := by simp; omega
  rw [List.take_succ_eq_append_getElem h, List.drop_eq_getElem_cons h, List.set_append_right _ _ (by omega), hl, Nat.sub_self, List.set_cons_zero, List.map_append, List.append_assoc]
  rfl

theorem OwL.upd {w : World} {e : TypeId} : ∀ {F : Nat → Prop} {ps : List T} {b o : Nat} (i : Nat) (_ : OwL w e F ps b o) (hi : i < ps.length), ∃ Fi : Nat → Prop, (∀ x, Fi x → F x) ∧ OwC w e Fi ps[i] b (o + 3 * i) ∧
    ∀ (w' : World) (t' : T), (∀ x, F x → ¬ Fi x → x < w.heap.size → w'.heap[x]? = w.heap[x]?) → (∀ j, o ≤ j → j < o + 3 * ps.length → (j < o + 3 * i ∨ o + 3 * i + 3 ≤ j) → w'.cell? ⟨b, j, none⟩ = w.cell? ⟨b, j, none⟩) →
      OwC w' e Fi t' b (o + 3 * i) → OwL w' e F (ps.set i t') b o
  | F, t :: r, b, o, 0, h, _ => by
    simp only [OwL] at h
    obtain ⟨F1, F2, h1, h2, h3, h4, h5⟩ := h
    refine ⟨F1, h1, by simpa using h4, fun w' t' hk hc ht => ?_⟩
    simp only [List.set_cons_zero, OwL]
    exact ⟨F1, F2, h1, h2, h3, by simpa using ht, OwL.keepC (fun _ h => h) (fun x hx hl => hk x (h2 x hx) (fun hn => h3 x hn hx) hl) (fun j hj hj' => hc j (by omega) (by simp; omega) (.inr (by omega))) h5⟩
  | F, t :: r, b, o, i + 1, h, hi => by
    simp only [OwL] at h
    obtain ⟨F1, F2, h1, h2, h3, h4, h5⟩ := h
    obtain ⟨Fi, k1, k2, k3⟩ := OwL.upd i h5 (by simpa using hi)
    refine ⟨Fi, fun x hx => h2 x (k1 x hx), by rw [show o + 3 * (i + 1) = o + 3 + 3 * i by omega]; simpa using k2, fun w' t' hk hc ht => ?_⟩
    simp only [List.set_cons_succ, OwL]
    have hi' : i < r.length := by simpa using hi
    exact ⟨F1, F2, h1, h2, h3, OwC.keepC (fun _ h => h) (fun x hx hl => hk x (h1 x hx) (fun hn => h3 x hx (k1 x hn)) hl) (fun j hj hj' => hc j hj (by simp; omega) (.inl (by omega))) h4,
      k3 w' t' (fun x hx hn hl => hk x (h2 x hx) hn hl) (fun j hj hj' hjj => hc j (by omega) (by simp; omega) (by omega)) (by rw [show o + 3 + 3 * i = o + 3 * (i + 1) by omega]; exact ht)⟩

/-- Three cells written one behind the other. -/
def put3 (w : World) (g o : Nat) (x y z : Value) : World := ((w.setCell ⟨g, o, none⟩ x).setCell ⟨g, o + 1, none⟩ y).setCell ⟨g, o + 2, none⟩ z
theorem put3_heap (w : World) (g o : Nat) (x y z : Value) (k : Nat) (hk : k ≠ g) : (put3 w g o x y z).heap[k]? = w.heap[k]? := by
  unfold put3
  rw [Below.heap_setCell _ _ _ _ (by simpa using hk), Below.heap_setCell _ _ _ _ (by simpa using hk), Below.heap_setCell _ _ _ _ (by simpa using hk)]
theorem put3_size (w : World) (g o : Nat) (x y z : Value) : (put3 w g o x y z).heap.size = w.heap.size := by simp [put3, World.setCell]
theorem put3_fr {D : Nat → Prop} {w0 w : World} (h : Fr D w0 w) (g o : Nat) (hg : D g) (x y z : Value) : Fr D w0 (put3 w g o x y z) := by
  have st : ∀ (w : World) (p : Addr) (u : Value), D p.block → Fr D w0 w → Fr D w0 (w.setCell p u) := fun w p u hp h =>
    ⟨h.1, h.2.1, h.2.2.1, by simpa [World.setCell] using h.2.2.2.1, fun b hb hn => (Below.heap_setCell w p u b (by rintro rfl; exact hn hp)).trans (h.2.2.2.2 b hb hn)⟩
  exact st _ _ _ hg (st _ _ _ hg (st _ _ _ hg h))
theorem put3_blk {w : World} {g : Nat} {t : TypeId} {cs : Array Value} (h : Blk w g t cs) (o : Nat) (x y z : Value) : Blk (put3 w g o x y z) g t (((cs.setIfInBounds o x).setIfInBounds (o + 1) y).setIfInBounds (o + 2) z) := ((h.set_ _ _).set_ _ _).set_ _ _

/-- An element of a list of the call's own: where it lies; and the list when it has been turned. -/
theorem OwS.upd {w : World} {e : TypeId} {F : Nat → Prop} {ps : List T} {a : Option Addr} {c : Nat} (h : OwS w e F ps a c) (i : Nat) (hi : i < ps.length) : ∃ (g : Nat) (Fi : Nat → Prop) (a2 : Option Addr) (c2 : Nat), a = some ⟨g, 0, none⟩ ∧ F g ∧ g < w.heap.size ∧ (∀ x, Fi x → F x ∧ x ≠ g) ∧
    i64ok ps[i].k ∧ i64ok ps[i].n ∧ w.cell? ⟨g, 3 * i, none⟩ = some (.int .i64 ps[i].k) ∧ w.cell? ⟨g, 3 * i + 1, none⟩ = some (.int .i64 ps[i].n) ∧ w.cell? ⟨g, 3 * i + 2, none⟩ = some (.slice a2 ps[i].ps.length c2) ∧ OwS w e Fi ps[i].ps a2 c2 ∧ (∀ j, w.frozen? ⟨g, j, none⟩ = false) ∧
    ∀ (w2 : World) (t' : T) (a3 : Option Addr) (c3 : Nat), Fr Fi w w2 → i64ok t'.k → i64ok t'.n → OwS w2 e Fi t'.ps a3 c3 →
      OwS (put3 w2 g (3 * i) (.int .i64 t'.k) (.int .i64 t'.n) (.slice a3 t'.ps.length c3)) e F (ps.set i t') a c ∧ (∀ j, w2.frozen? ⟨g, j, none⟩ = false) ∧ ∃ u0 u1 u2, w2.cell? ⟨g, 3 * i, none⟩ = some u0 ∧ w2.cell? ⟨g, 3 * i + 1, none⟩ = some u1 ∧ w2.cell? ⟨g, 3 * i + 2, none⟩ = some u2 := by
  obtain ⟨hn, hc, ⟨rfl, _, _⟩ | ⟨g, cs, rfl, hF, hb, hcs, hl⟩⟩ := h
  · simp at hi
  obtain ⟨Fi, k1, k2, k3⟩ := OwL.upd i hl hi
  obtain ⟨o1, o2, z0, z1, a2, c2, z2, how⟩ := OwC.iff.1 k2
  rw [Nat.zero_add] at z0 z1 z2
  refine ⟨g, Fi, a2, c2, rfl, hF, hb.lt, k1, o1, o2, z0, z1, z2, how, fun j => hb.frozen j, fun w2 t' a3 c3 hfr ok1 ok2 how3 => ?_⟩
  have hb2 : Blk w2 g e cs := (hfr.2.2.2.2 g hb.lt (fun h => (k1 g h).2 rfl)).trans hb
  have hsz : 3 * i + 2 < cs.size := by omega
  refine ⟨⟨by simpa using hn, hc, .inr ⟨g, _, rfl, hF, put3_blk hb2 (3 * i) _ _ _, by simpa using hcs, ?_⟩⟩, fun j => hb2.frozen j, cs[3 * i], cs[3 * i + 1], cs[3 * i + 2], ?_, ?_, ?_⟩
  · have hB := put3_blk hb2 (3 * i) (.int .i64 t'.k) (.int .i64 t'.n) (.slice a3 t'.ps.length c3)
    refine k3 _ t' (fun x hx hnx hlx => ?_) (fun j _ hj hjj => ?_) (OwC.iff.2 ⟨ok1, ok2, ?_, ?_, a3, c3, ?_, how3.keep (fun _ h => h) (fun b hb' _ => put3_heap _ _ _ _ _ _ _ (k1 b hb').2)⟩)
    · rw [put3_heap _ _ _ _ _ _ _ hx.2]; exact hfr.2.2.2.2 x hlx hnx
    · rw [hB.cell j, hb.cell j]
      rw [Array.getElem?_setIfInBounds_ne (by omega), Array.getElem?_setIfInBounds_ne (by omega), Array.getElem?_setIfInBounds_ne (by omega)]
    · rw [Nat.zero_add, hB.cell]
      rw [Array.getElem?_setIfInBounds_ne (by omega), Array.getElem?_setIfInBounds_ne (by omega), Array.getElem?_setIfInBounds_self_of_lt (by omega)]
    · rw [Nat.zero_add, hB.cell]
      rw [Array.getElem?_setIfInBounds_ne (by omega), Array.getElem?_setIfInBounds_self_of_lt (by simp; omega)]
    · rw [Nat.zero_add, hB.cell]
      rw [Array.getElem?_setIfInBounds_self_of_lt (by simp; omega)]
  · rw [hb2.cell]; exact Array.getElem?_eq_getElem _
  · rw [hb2.cell]; exact Array.getElem?_eq_getElem _
  · rw [hb2.cell]; exact Array.getElem?_eq_getElem _
theorem OwS.upd3 {w : World} {e : TypeId} {F : Nat → Prop} {ps : List T} {a : Option Addr} {c : Nat} (h : OwS w e F ps a c) (i : Nat) (hi : i < ps.length) : ∃ (g : Nat) (Fi : Nat → Prop) (a2 : Option Addr) (c2 : Nat), a = some ⟨g, 0, none⟩ ∧ F g ∧ g < w.heap.size ∧ (∀ x, Fi x → F x ∧ x ≠ g) ∧
    i64ok ps[i].k ∧ i64ok ps[i].n ∧ w.cell? ⟨g, i * 3, none⟩ = some (.int .i64 ps[i].k) ∧ w.cell? ⟨g, i * 3 + 1, none⟩ = some (.int .i64 ps[i].n) ∧ w.cell? ⟨g, i * 3 + 2, none⟩ = some (.slice a2 ps[i].ps.length c2) ∧ OwS w e Fi ps[i].ps a2 c2 ∧ (∀ j, w.frozen? ⟨g, j, none⟩ = false) ∧
    ∀ (w2 : World) (t' : T) (a3 : Option Addr) (c3 : Nat), Fr Fi w w2 → i64ok t'.k → i64ok t'.n → OwS w2 e Fi t'.ps a3 c3 →
      OwS (put3 w2 g (i * 3) (.int .i64 t'.k) (.int .i64 t'.n) (.slice a3 t'.ps.length c3)) e F (ps.set i t') a c ∧ (∀ j, w2.frozen? ⟨g, j, none⟩ = false) ∧ ∃ u0 u1 u2, w2.cell? ⟨g, i * 3, none⟩ = some u0 ∧ w2.cell? ⟨g, i * 3 + 1, none⟩ = some u1 ∧ w2.cell? ⟨g, i * 3 + 2, none⟩ = some u2 := by
  have := OwS.upd h i hi
  rw [Nat.mul_comm 3 i] at this
  exact this
end Go.Proofs.Ytklmpagpkeffjaa

/- l91Lower -/
namespace Go.Proofs.Ytklmpagpkeffjaa
open Go.RowKit

/-- A task was lowered, in the blocks that it had. -/
def LowPost (w : World) (F : Nat → Prop) (t : T) (e : Ending) (w' : World) : Prop :=
  ∃ (a' : Option Addr) (c' : Nat), e = .returned (.agg #[.int .i64 t.low.k, .int .i64 t.low.n, .slice a' t.low.ps.length c']) ∧ i64ok t.low.k ∧ i64ok t.low.n ∧ OwS w' 42 F t.low.ps a' c' ∧ Fr F w w'
def LowS (t : T) : Prop := ∀ (w : World) (F : Nat → Prop) (a : Option Addr) (c : Nat) (k : Int), t.fit = true → i64ok t.k → i64ok t.n → OwS w 42 F t.ps a c → (∀ b, F b → b < w.heap.size) →
  Calls Try.prog 93 #[.agg #[.int .i64 t.k, .int .i64 t.n, .slice a t.ps.length c], .int .i64 k] w (LowPost w F t)

theorem Blk.fr' {w w' : World} {g : Nat} {t : TypeId} {cs : Array Value} {D : Nat → Prop} (h : Blk w g t cs) (hf : Fr D w w') (hg : ¬ D g) : Blk w' g t cs := (hf.2.2.2.2 g h.lt hg).trans h

set_option maxHeartbeats 2000000 in
theorem lower_of (t : T) (ih : ∀ p ∈ t.ps, LowS p) : LowS t := by
  intro w F a c k hfit ok1 ok2 how hF
  obtain ⟨t0, n, ps⟩ := t
  simp only [T.k, T.n, T.ps] at ih ok1 ok2 how ⊢
  have HIH := Lib.hid ih
  have HOK := Lib.hid (And.intro ok1 ok2)
  have HOW := Lib.hid ((how.alloc (.cells #[.int .i64 t0, .int .i64 n, .slice a ps.length c] 42)).alloc (.cells #[.int .i64 0, .int .i64 0, .slice none 0 0] 42))
  have HX := Lib.hid ((Blk.new w 42 #[.int .i64 t0, .int .i64 n, .slice a ps.length c]).alloc (.cells #[.int .i64 0, .int .i64 0, .slice none 0 0] 42))
  have HR := Lib.hid (Blk.new (w.alloc (.cells #[.int .i64 t0, .int .i64 n, .slice a ps.length c] 42)) 42 #[.int .i64 0, .int .i64 0, .slice none 0 0])
  have HF := Lib.hid hF
  have HFR := Lib.hid (show Fr F w ((w.alloc (.cells #[.int .i64 t0, .int .i64 n, .slice a ps.length c] 42)).alloc (.cells #[.int .i64 0, .int .i64 0, .slice none 0 0] 42)) from .of_below (((Below.refl _ _).alloc (Nat.le_refl _) _).alloc (by simp) _))
  clear how hF ih ok1 ok2
  by_cases h5 : t0 = 5
  · subst h5
    obtain ⟨p, rfl⟩ := fit_five hfit
    have hpf : p.fit = true := fitL_mem (ps := [p]) (by simp only [T.fit, Bool.and_eq_true] at hfit; exact hfit.2) (by simp)
    have HPF := Lib.hid hpf
    obtain ⟨g, Fi, a2, c2, rfl, hFg, hgl, hFi, ok1, ok2, z0, z1, z2, how2, _, _⟩ := HOW.out.upd3 0 (by simp)
    simp only [Nat.zero_mul, Nat.zero_add, List.getElem_cons_zero] at ok1 ok2 z0 z1 z2 how2
    have HW2 := Lib.hid how2
    have HFI := Lib.hid hFi
    have HO2 := Lib.hid (And.intro ok1 ok2)
    have hg := HF.out g hFg
    clear how2 hFi hpf hfit hFg ok1 ok2 hgl
    obtain ⟨x0, x1, x2, _, _, _⟩ := HX.out.three
    simp only [List.length_singleton] at x0 x1 x2 z0 z1 z2
    go_enter Try.func93, Try.ntmps93
    go_wp2_with fail
    refine (HIH.out p (by simp) _ Fi a2 c2 k HPF.out HO2.out.1 HO2.out.2 HW2.out (fun b hb => by have := HF.out b (HFI.out b hb).1; simp; omega)).mono ?_
    rintro e w1 ⟨a3, c3, rfl, ok3, ok4, how3, hfr⟩
    have hr1 := HR.out.fr' hfr (fun h => by have := HF.out _ (HFI.out _ h).1; simp at this; omega)
    have HR1 := Lib.hid hr1
    have HW3 := Lib.hid (And.intro how3 (And.intro ok3 ok4))
    have HF3 := Lib.hid hfr
    simp only [World.size_alloc] at hr1
    obtain ⟨y0, y1, y2, f0, f1, f2⟩ := hr1.three
    clear how3 hfr hr1 ok3 ok4 x0 x1 x2 z0 z1 z2
    go_wp2_with fail
    refine bodyPost_ret (v := .agg #[.int .i64 p.low.k, .int .i64 p.low.n, .slice a3 p.low.ps.length c3]) (by simp [results, Try.results93, go_sem, y0, y1, y2]) rfl ?_
    have hlow : (T.mk 5 n [p]).low = p.low := by simp [T.low, headLow]
    unfold LowPost
    rw [hlow]
    refine ⟨a3, c3, rfl, HW3.out.2.1, HW3.out.2.2, ?_, ?_⟩
    · exact (HW3.out.1.set3 (R := w.heap.size + 1) (fun b hb => by have := HF.out _ (HFI.out _ hb).1; omega) _ _ _).weaken (fun b hb => (HFI.out b hb).1)
    · have h1 : Fr F w w1 := HFR.out.trans HF3.out (fun b hb => .inl (HFI.out b hb).1)
      exact ⟨h1.1, h1.2.1, h1.2.2.1, by have := set3_size w1 (w.heap.size + 1) (.int .i64 p.low.k) (.int .i64 p.low.n) (.slice a3 p.low.ps.length c3); unfold set3 at this; have := h1.2.2.2.1; omega,
        fun b hb hn => (set3_heap w1 (w.heap.size + 1) (.int .i64 p.low.k) (.int .i64 p.low.n) (.slice a3 p.low.ps.length c3) b (by omega)).trans (h1.2.2.2.2 b hb hn)⟩
  · have hne : (t0 == 5) = false := by simp [h5]
    have hpf : fitL ps = true := by simp only [T.fit, Bool.and_eq_true] at hfit; exact hfit.2
    have hlow : (T.mk t0 n ps).low = .mk t0 n (lowL ps) := by simp [T.low, h5]
    have HPF := Lib.hid hpf
    have HLOW := Lib.hid hlow
    have hlm : ps.length ≤ 9223372036854775807 := by have := HOW.out.1; have := HOW.out.2.1; omega
    clear hpf hlow h5 hfit
    obtain ⟨x0, x1, x2, _, _, _⟩ := HX.out.three
    go_enter Try.func93, Try.ntmps93
    go_wp2_with fail
    go_loopw [5] (fun i wr => ∃ j : Nat, j ≤ ps.length ∧ i = .int .i64 j ∧ OwS wr 42 F (lowTo ps j) a c ∧ Fr F w wr ∧ Blk wr w.heap.size 42 #[.int .i64 t0, .int .i64 n, .slice a ps.length c] ∧ Blk wr (w.heap.size + 1) 42 #[.int .i64 0, .int .i64 0, .slice none 0 0]) (fun i _ => ps.length - (intOf i).toNat)
    case atStart => exact ⟨0, by omega, rfl, by rw [lowTo_zero]; exact HOW.out, HFR.out, HX.out, by have := HR.out; simp only [World.size_alloc] at this; exact this⟩
    case round =>
      obtain ⟨j, hj, rfl, how, hfr, hx, hr⟩ := hrel
      have HO := Lib.hid how
      have HFJ := Lib.hid hfr
      have HXJ := Lib.hid hx
      have HRJ := Lib.hid hr
      clear HX HR HOW x0 x1 x2
      obtain ⟨x0, x1, x2, _, _, _⟩ := HXJ.out.three
      by_cases hlt : j < ps.length
      · have hjl : j < (lowTo ps j).length := by rw [lowTo_len ps j hj]; exact hlt
        obtain ⟨g, Fi, a2, c2, rfl, hFg, hgl, hFi, ok1, ok2, z0, z1, z2, how2, _, hup⟩ := how.drew.upd3 j hjl
        obtain ⟨p, hp⟩ : ∃ p, p = ps[j] := ⟨_, rfl⟩
        rw [lowTo_get ps j hlt hjl, ← hp] at ok1 ok2 z0 z1 z2 how2
        have HUP := Lib.hid hup
        have HW2 := Lib.hid how2
        have HFI := Lib.hid hFi
        have HO2 := Lib.hid (And.intro ok1 ok2)
        have hpf : p.fit = true := by rw [hp]; exact fitL_mem HPF.out (List.getElem_mem hlt)
        have hmem : p ∈ ps := by rw [hp]; exact List.getElem_mem hlt
        have hstep : (lowTo ps j).set j p.low = lowTo ps (j + 1) := by rw [hp]; exact lowTo_step ps j hlt
        have HPJ := Lib.hid hpf
        have HMEM := Lib.hid hmem
        have HST := Lib.hid hstep
        have hg := HF.out g hFg
        have HFG := Lib.hid hFg
        have hgw : g ≠ w.heap.size := by omega
        have hgw1 : g ≠ w.heap.size + 1 := by omega
        have HG := Lib.hid hgw
        have HG1 := Lib.hid hgw1
        clear how hup how2 hFi ok1 ok2 hfr hx hr hp hpf hmem hstep hjl hFg hgl hgw hgw1
        go_wp2_with fail
        go_region_with (go_at_call 93; refine (HIH.out p HMEM.out wr.drew Fi a2 c2 k HPJ.out HO2.out.1 HO2.out.2 HW2.out ?_).mono ?_; exact (fun b hb => by have := HF.out b (HFI.out b hb).1; have := HFJ.out.2.2.2.1; simp; omega); rintro e w2 ⟨a3, c3, rfl, ok3, ok4, how3, hfr3⟩; obtain ⟨how4, hfz, u0, u1, u2, v0, v1, v2⟩ := HUP.out w2 p.low a3 c3 hfr3 ok3 ok4 how3; have f0 := hfz (j * 3); have f1 := hfz (j * 3 + 1); have f2 := hfz (j * 3 + 2); obtain ⟨q0, q1, q2, _, _, _⟩ := (HXJ.out.drew.fr' hfr3 (fun h => by have := HF.out _ (HFI.out _ h).1; omega)).three)
        all_goals
          rw [HST.out] at how4
          have hX : Blk w2 w.heap.size 42 #[.int .i64 t0, .int .i64 n, .slice (some ⟨g, 0, none⟩) ps.length c] := HXJ.out.drew.fr' hfr3 (fun h => by have := HF.out _ (HFI.out _ h).1; omega)
          have hR : Blk w2 (w.heap.size + 1) 42 #[.int .i64 0, .int .i64 0, .slice none 0 0] := HRJ.out.drew.fr' hfr3 (fun h => by have := HF.out _ (HFI.out _ h).1; omega)
          have H4 := Lib.hid how4
          have H5 := Lib.hid (show Blk (put3 w2 g (j * 3) (.int .i64 p.low.k) (.int .i64 p.low.n) (.slice a3 p.low.ps.length c3)) w.heap.size 42 #[.int .i64 t0, .int .i64 n, .slice (some ⟨g, 0, none⟩) ps.length c] from (put3_heap _ _ _ _ _ _ _ (Ne.symm HG.out)).trans hX)
          have H6 := Lib.hid (show Blk (put3 w2 g (j * 3) (.int .i64 p.low.k) (.int .i64 p.low.n) (.slice a3 p.low.ps.length c3)) (w.heap.size + 1) 42 #[.int .i64 0, .int .i64 0, .slice none 0 0] from (put3_heap _ _ _ _ _ _ _ (Ne.symm HG1.out)).trans hR)
          have H7 := Lib.hid (put3_fr ((HFJ.out.trans (Fr.of_below (D := F) ((Below.refl wr.heap.size wr).drew)) (fun b hb => .inl hb)).trans hfr3 (fun b hb => .inl (HFI.out b hb).1)) g (j * 3) HFG.out (.int .i64 p.low.k) (.int .i64 p.low.n) (.slice a3 p.low.ps.length c3))
          clear how4 hfz u0 u1 u2 v0 v1 v2 f0 f1 f2 q0 q1 q2 hX hR hfr3 how3 ok3 ok4 x0 x1 x2 z0 z1 z2
          go_wp2_with fail
          go_roundw
          case rel => exact ⟨j + 1, by omega, by go_num, H4.out, H7.out, H5.out, H6.out⟩
          case measure => simp [intOf]; omega
      · obtain rfl : j = ps.length := by omega
        clear how hfr hx hr
        obtain ⟨y0, y1, y2, f0, f1, f2⟩ := HRJ.out.three
        go_wp2_with fail
        refine bodyPost_ret (v := .agg #[.int .i64 t0, .int .i64 n, .slice a ps.length c]) (by simp [results, Try.results93, go_sem, y0, y1, y2]) rfl ?_
        unfold LowPost
        rw [HLOW.out]
        have hll : (lowL ps).length = ps.length := by rw [lowL_map]; simp
        have ho := HO.out
        rw [lowTo_all] at ho
        refine ⟨a, c, by simp only [T.k, T.n, T.ps, hll], HOK.out.1, HOK.out.2, ?_, ?_⟩
        · exact ho.set3 (R := w.heap.size + 1) (fun b hb => by have := HF.out _ hb; omega) _ _ _
        · have h1 := HFJ.out
          exact ⟨h1.1, h1.2.1, h1.2.2.1, by have := set3_size wr (w.heap.size + 1) (.int .i64 t0) (.int .i64 n) (.slice a ps.length c); unfold set3 at this; have := h1.2.2.2.1; omega,
            fun b hb hn => (set3_heap wr (w.heap.size + 1) (.int .i64 t0) (.int .i64 n) (.slice a ps.length c) b (by omega)).trans (h1.2.2.2.2 b hb hn)⟩

theorem lower_to : ∀ (m : Nat) (t : T), t.nodes ≤ m → LowS t
  | 0, t, h => by have := t.nodes_pos; omega
  | m + 1, t, h => lower_of t fun p hp => lower_to m p (by
      have h1 := nodes_mem hp
      have h2 := t.nodes_eq
      omega)
/-- l91Lower. -/
theorem lower_any (t : T) : LowS t := lower_to t.nodes t (Nat.le_refl _)
end Go.Proofs.Ytklmpagpkeffjaa

/- l91Values; DrawTaskValue and its like -/
namespace Go.Proofs.Ytklmpagpkeffjaa
open Go.RowKit

theorem only_grown {g : Nat} {w wr w2 : World} {row : Option Nat} (h : Only g w wr) (hg : wr.grownBy w2 row) (hr : ∀ k, row = some k → w.heap.size ≤ k) : Only g w w2 :=
  ⟨hg.os.trans h.os, hg.tape.trans h.tape, hg.output.trans h.output, Nat.le_trans h.size hg.size, fun i hi hne => (hg.block i (Nat.lt_of_lt_of_le hi h.size) (by intro e; have := hr i e.symm; omega)).trans (h.block i hi hne)⟩
theorem RdAt.grown {g p : Nat} {w w2 : World} {row : Option Nat} (h : RdAt w g p) (hg : w.grownBy w2 row) (hr : ∀ k, row = some k → g < k) : RdAt w2 g p :=
  h.keep fun k hk => hg.block k (by have := h.lt; omega) (by intro e; have := hr k e.symm; omega)
theorem NumRow.only {g base : Nat} {w w2 : World} {v : Value} {l : List Int} (h : NumRow w base v l) (ho : Only g w w2) (hg : g < base) : NumRow w2 base v l :=
  World.ownsRow.kept h ho (by
    cases hv : v.ownBlock with
    | none => exact .inl rfl
    | some k => refine .inr ?_; intro e; injection e with e; have := own_ge h k hv; omega)

/-- Values drawn off a code. -/
def ValsD (g p : Nat) (w : World) (e : Ending) (w' : World) : Prop :=
  ∃ (l : List Int) (v : Value) (p' : Nat), e = .returned v ∧ NumRow w' w.heap.size v l ∧ l.length ≤ 12 ∧ (∀ x ∈ l, 0 ≤ x ∧ x ≤ 97) ∧ p ≤ p' ∧ p' ≤ p + 100 ∧ RdAt w' g p' ∧ Only g w w'

/-- A task and values drawn off a code. -/
def DrawnTV (w : World) (e : Ending) (w' : World) : Prop := ∃ (t : T) (a : Option Addr) (c : Nat) (l : List Int) (v : Value), e = .returned (.tuple #[.agg #[.int .i64 t.k, .int .i64 t.n, .slice a t.ps.length c], v]) ∧ AtS w' (fun b => w.heap.size ≤ b ∧ b < w'.heap.size) t.ps a c ∧
  i64ok t.k ∧ i64ok t.n ∧ t.nodes ≤ 100 ∧ NumRow w' w.heap.size v l ∧ l.length ≤ 12 ∧ (∀ x ∈ l, 0 ≤ x ∧ x ≤ 97) ∧ Below w.heap.size w w'
end Go.Proofs.Ytklmpagpkeffjaa

/- a sheet in memory of its own that grows by a key -/
namespace Go.Proofs.Ytklmpagpkeffjaa
open Go.RowKit

/-- A sheet in memory of its own: blocks from B on, below M. -/
structure ShD (w : World) (B M : Nat) (s : Sh) (v : Value) (a' : Option Addr) (c' : Nat) : Prop where
  row : BoolRow w B v s.m
  own : ∀ b, v.ownBlock = some b → b < M
  ow : OwS w 42 (fun b => B ≤ b ∧ b < M ∧ v.ownBlock ≠ some b) s.t a' c'
  le : M ≤ w.heap.size
section
variable {w w' : World} {B M : Nat} {s : Sh} {v : Value} {a' : Option Addr} {c' : Nat}
theorem ShD.fr {D : Nat → Prop} (h : ShD w B M s v a' c') (hf : Fr D w w') (hD : ∀ b, D b → b < B ∨ M ≤ b) : ShD w' B M s v a' c' :=
  ⟨ElRow.frO h.row hf (fun b hb hd => by have := (World.ownsRow.lt h.row b hb).1; have := h.own b hb; have := hD b hd; omega), h.own,
    h.ow.keep (fun _ h => h) (fun b hb hl => hf.2.2.2.2 b hl (fun hd => by have := hD b hd; omega)), Nat.le_trans h.le hf.size⟩
theorem ShD.only {g : Nat} (h : ShD w B M s v a' c') (ho : Only g w w') (hg : g < B) : ShD w' B M s v a' c' :=
  h.fr (D := fun b => b = g) ⟨ho.os, ho.tape, ho.output, ho.size, fun b hb hn => ho.block b hb (by intro e; injection e; contradiction)⟩ (fun b hb => by omega)
theorem ShD.below (h : ShD w B M s v a' c') (hb : Below w.heap.size w w') : ShD w' B M s v a' c' := h.fr (D := fun _ => False) (Fr.of_below hb) (fun _ h => h.elim)
theorem ShD.alloc (h : ShD w B M s v a' c') (o : Obj) : ShD (w.alloc o) B M s v a' c' := h.below ((Below.refl _ _).alloc (Nat.le_refl _) o)
theorem ShD.set_ (h : ShD w B M s v a' c') (p : Addr) (u : Value) (hp : p.block < B ∨ M ≤ p.block) : ShD (w.setCell p u) B M s v a' c' :=
  h.fr (D := fun b => p.block = b) (Fr.set' (D := fun b => p.block = b) (Fr.of_below (Below.refl w.heap.size w)) p rfl u) (fun b hb => by omega)
theorem ShD.up (h : ShD w B M s v a' c') {M' : Nat} (hM : M ≤ M') (hl : M' ≤ w.heap.size) : ShD w B M' s v a' c' :=
  ⟨h.row, fun b hb => Nat.lt_of_lt_of_le (h.own b hb) hM, h.ow.weaken (fun b hb => ⟨hb.1, by omega, hb.2.2⟩), hl⟩
theorem ShD.low {B' : Nat} (h : ShD w B M s v a' c') (hB : B' ≤ B) : ShD w B' M s v a' c' := ⟨ownsRow_low h.row hB, h.own, h.ow.weaken (fun b hb => ⟨by omega, hb.2⟩), h.le⟩
theorem ShD.bool (h : ShD w B M s v a' c') {v' : Value} {x : Bool} (hown : w'.ownsRow B 4 1 v' (s.m.length + 1) (s.m.map Value.bool ++ [.bool x])) (hgr : w.grownBy w' v.ownBlock) (hv : ∀ b, v'.ownBlock = some b → v.ownBlock = some b ∨ w.heap.size ≤ b) :
    ShD w' B w'.heap.size ⟨s.m ++ [x], s.t⟩ v' a' c' := by
  have hle := h.le
  have hsz := hgr.size
  refine ⟨?_, fun b hb => (World.ownsRow.lt hown b hb).2, ?_, Nat.le_refl _⟩
  · unfold BoolRow ElRow
    simp only [List.length_append, List.length_singleton, List.map_append, List.map_cons, List.map_nil]
    exact hown
  · refine h.ow.keep (fun b hb => ⟨hb.1, by omega, fun e => ?_⟩) (fun b hb hl => hgr.block b hl (fun e => hb.2.2 e.symm))
    rcases hv b e with h1 | h1
    · exact hb.2.2 h1
    · omega
theorem ShD.task (h : ShD w B M s v a' c') {F1 : Nat → Prop} {t : T} {v' : Value} (hF1 : ∀ b, F1 b → M ≤ b ∧ b < w.heap.size) (hB : B ≤ M) (hg : Grew w 42 (fun b => B ≤ b ∧ b < M ∧ v.ownBlock ≠ some b) F1 s.t a' t v' w') :
    ∃ a2 c2, v' = .slice a2 (s.t.length + 1) c2 ∧ ShD w' B w'.heap.size ⟨s.m, s.t ++ [t]⟩ v a2 c2 := by
  obtain ⟨a2, c2, rfl, how, hsz, hkeep, hos, htape, hout⟩ := hg
  have hle := h.le
  have hhead : ∀ x, a' = some x → B ≤ x.block ∧ x.block < M ∧ v.ownBlock ≠ some x.block := fun x hx => h.ow.head x hx
  refine ⟨a2, c2, rfl, ?_, fun b hb => by have := h.own b hb; omega, ?_, Nat.le_refl _⟩
  · exact ElRow.frO (D := fun b => ∃ x, a' = some x ∧ b = x.block) h.row ⟨hos, htape, hout, hsz, fun b hb hn => hkeep b hb (fun x hx e => hn ⟨x, hx, e⟩)⟩
      (fun b hb hd => by obtain ⟨x, hx, e⟩ := hd; exact (hhead x hx).2.2 (by rw [← e]; exact hb))
  · refine how.tight.weaken (fun b hb => ⟨?_, hb.2, fun e => ?_⟩)
    · rcases hb.1 with h1 | h1 | h1
      · exact h1.1
      · have := hF1 b h1; omega
      · omega
    · have := h.own b e
      rcases hb.1 with h1 | h1 | h1
      · exact h1.2.2 e
      · have := hF1 b h1; omega
      · omega
theorem Grew.fr {e : TypeId} {F F1 : Nat → Prop} {ps : List T} {av : Option Addr} {t : T} {v' : Value} (hg : Grew w e F F1 ps av t v' w') : Fr (fun b => ∃ x, av = some x ∧ b = x.block) w w' := by
  obtain ⟨a2, c2, rfl, how, hsz, hkeep, hos, htape, hout⟩ := hg
  exact ⟨hos, htape, hout, hsz, fun b hb hn => hkeep b hb (fun x hx e => hn ⟨x, hx, e⟩)⟩
theorem Only.fr {g : Nat} {w0 : World} {D : Nat → Prop} (h : Only g w0 w) (hf : Fr D w w') (hD : ∀ b, D b → w0.heap.size ≤ b) : Only g w0 w' :=
  ⟨hf.1.trans h.os, hf.2.1.trans h.tape, hf.2.2.1.trans h.output, Nat.le_trans h.size hf.size, fun b hb hn => (hf.2.2.2.2 b (Nat.lt_of_lt_of_le hb h.size) (fun hd => by have := hD b hd; omega)).trans (h.block b hb hn)⟩
theorem RdAt.fr {g p : Nat} {D : Nat → Prop} (h : RdAt w g p) (hf : Fr D w w') (hD : ∀ b, D b → g < b) : RdAt w' g p :=
  h.keep fun k hk => hf.2.2.2.2 k (by have := h.lt; omega) (fun hd => by have := hD k hd; omega)
theorem grownBy_fr {row : Option Nat} (h : w.grownBy w' row) : Fr (fun b => row = some b) w w' := ⟨h.os, h.tape, h.output, h.size, fun b hb hn => h.block b hb (fun e => hn e.symm)⟩
/-- What a sheet in memory of its own reads as. -/
theorem ShD.at (h : ShD w B M s v a' c') : ∃ a c, v = .slice a s.m.length c ∧ ShAt w (fun b => B ≤ b ∧ b < M) s a c a' c' := by
  obtain ⟨a, c, rfl, h2⟩ := ElRow.at h.row
  refine ⟨a, c, rfl, ?_, h.ow.at.weaken (fun b hb => ⟨hb.1, hb.2.1⟩)⟩
  refine ⟨h2.1, h2.2.1, ?_⟩
  rcases h2.2.2 with h0 | ⟨b, o, rfl, hb, hc⟩
  · exact .inl h0
  · by_cases h0 : s.m = []
    · exact .inl h0
    · have hp : 0 < s.m.length := List.length_pos_iff.2 h0
      obtain ⟨g, cap, hv⟩ := own_some h.row hp
      simp only [Value.slice.injEq, Option.some.injEq, Addr.mk.injEq, true_and, and_true] at hv
      have := h.own b (by rw [hv.1.1, hv.1.2]; rfl)
      exact .inr ⟨b, o, rfl, ⟨hb, this⟩, hc⟩
end
end Go.Proofs.Ytklmpagpkeffjaa

/- where the loop of l91Sheet stands -/
namespace Go.Proofs.Ytklmpagpkeffjaa
open Go.RowKit

structure LSt (w0 : World) (X g M : Nat) (w : World) (s : Sh) (v : Value) (a' : Option Addr) (c' q : Nat) : Prop where
  sh : ShD w (X + 1) M s v a' c'
  bx : Blk w X 26 #[v, .slice a' s.t.length c']
  by_ : Blk w w0.heap.size 26 #[.slice none 0 0, .slice none 0 0]
  rd : RdAt w g q
  on : Only g w0 w
  gl : g < w0.heap.size
  xl : w0.heap.size < X
  ml : X + 1 ≤ M
section
variable {w0 w w' w5 : World} {X g M q : Nat} {s : Sh} {v : Value} {a' : Option Addr} {c' : Nat}
theorem LSt.fr {D : Nat → Prop} (h : LSt w0 X g M w s v a' c' q) (hf : Fr D w w') (hD : ∀ b, D b → M ≤ b) : LSt w0 X g M w' s v a' c' q :=
  have hm := h.ml
  have hx := h.xl
  have hg := h.gl
  ⟨h.sh.fr hf (fun b hb => .inr (hD b hb)), h.bx.fr' hf (fun hd => by have := hD _ hd; omega), h.by_.fr' hf (fun hd => by have := hD _ hd; omega), h.rd.fr hf (fun b hb => by have := hD b hb; omega), h.on.fr hf (fun b hb => by have := hD b hb; omega), h.gl, h.xl, h.ml⟩
theorem LSt.put (h : LSt w0 X g M w s v a' c' q) (R : Nat) (hR : M ≤ R) (x y z : Value) : LSt w0 X g M (set3 w R x y z) s v a' c' q := by
  have hf : Fr (fun b => b = R) w (set3 w R x y z) := by
    have := put3_fr (D := fun b => b = R) (Fr.of_below (Below.refl w.heap.size w)) R 0 rfl x y z
    simpa [put3, set3] using this
  exact h.fr hf (fun b hb => by omega)
theorem LSt.below (h : LSt w0 X g M w s v a' c' q) (hb : Below w.heap.size w w') : LSt w0 X g M w' s v a' c' q := h.fr (D := fun _ => False) (Fr.of_below hb) (fun _ h => h.elim)
theorem LSt.alloc (h : LSt w0 X g M w s v a' c' q) (o : Obj) : LSt w0 X g M (w.alloc o) s v a' c' q := h.below ((Below.refl _ _).alloc (Nat.le_refl _) o)
theorem LSt.only {q' : Nat} (h : LSt w0 X g M w s v a' c' q) (ho : Only g w w') (hr : RdAt w' g q') : LSt w0 X g M w' s v a' c' q' :=
  have hm := h.ml
  have hx := h.xl
  have hg := h.gl
  ⟨h.sh.only ho (by omega), h.bx.only ho (by omega), h.by_.only ho (by omega), hr, h.on.trans ho, h.gl, h.xl, h.ml⟩
theorem LSt.up (h : LSt w0 X g M w s v a' c' q) {M' : Nat} (hM : M ≤ M') (hl : M' ≤ w.heap.size) : LSt w0 X g M' w s v a' c' q :=
  ⟨h.sh.up hM hl, h.bx, h.by_, h.rd, h.on, h.gl, h.xl, by have := h.ml; omega⟩
/-- A truth value behind the row of what is made, and the row stored. -/
theorem LSt.bool (h : LSt w0 X g M w s v a' c' q) {v' : Value} {x : Bool} (hown : w5.ownsRow (X + 1) 4 1 v' (s.m.length + 1) (s.m.map Value.bool ++ [.bool x])) (hgr : w.grownBy w5 v.ownBlock) (hv : ∀ b, v'.ownBlock = some b → v.ownBlock = some b ∨ w.heap.size ≤ b) :
    (∃ av cv, v' = .slice av (s.m.length + 1) cv) ∧ Blk w5 X 26 #[v, .slice a' s.t.length c'] ∧ w.heap.size ≤ w5.heap.size ∧ LSt w0 X g w5.heap.size (w5.setCell ⟨X, 0, none⟩ v') ⟨s.m ++ [x], s.t⟩ v' a' c' q := by
  have hm := h.ml
  have hx := h.xl
  have hg := h.gl
  have hle := h.sh.le
  have hsz := hgr.size
  have hb := h.sh.bool hown hgr hv
  have hf := grownBy_fr hgr
  have hD : ∀ b, v.ownBlock = some b → X < b := fun b hb => by have := (World.ownsRow.lt h.sh.row b hb).1; omega
  have hbx : Blk w5 X 26 #[v, .slice a' s.t.length c'] := h.bx.fr' hf (fun hd => by have := hD _ hd; omega)
  refine ⟨?_, hbx, hsz, ?_⟩
  · obtain ⟨av, cv, h1, _⟩ := ElRow.at hb.row
    exact ⟨av, cv, by rw [h1]; simp⟩
  · exact ⟨hb.set_ _ _ (.inl (by simp)), by have := hbx.set_ 0 v'; simpa using this, (h.by_.fr' hf (fun hd => by have := hD _ hd; omega)).far (by simp; omega) _,
      (h.rd.fr hf (fun b hb => by have := hD b hb; omega)).keep (fun k hk => Below.heap_setCell _ _ _ _ (by simp; omega)), (h.on.fr hf (fun b hb => by have := hD b hb; omega)).set (.inr (by simp; omega)) _, h.gl, h.xl, by omega⟩
/-- A task behind the tasks, and the list stored. -/
theorem LSt.task (h : LSt w0 X g M w s v a' c' q) {F1 : Nat → Prop} {t : T} {v' : Value} (hF1 : ∀ b, F1 b → M ≤ b ∧ b < w.heap.size) (hg : Grew w 42 (fun b => X + 1 ≤ b ∧ b < M ∧ v.ownBlock ≠ some b) F1 s.t a' t v' w5) :
    ∃ a2 c2, v' = .slice a2 (s.t.length + 1) c2 ∧ Blk w5 X 26 #[v, .slice a' s.t.length c'] ∧ w.heap.size ≤ w5.heap.size ∧ LSt w0 X g w5.heap.size (w5.setCell ⟨X, 1, none⟩ (.slice a2 (s.t.length + 1) c2)) ⟨s.m, s.t ++ [t]⟩ v a2 c2 q := by
  have hm := h.ml
  have hx := h.xl
  have hgl := h.gl
  have hle := h.sh.le
  have hf := hg.fr
  have hsz := hf.size
  obtain ⟨a2, c2, rfl, hb⟩ := h.sh.task hF1 hm hg
  have hD : ∀ b, (∃ x, a' = some x ∧ b = x.block) → X < b := fun b ⟨x, hx, e⟩ => by have := (h.sh.ow.head x hx).1; omega
  have hbx : Blk w5 X 26 #[v, .slice a' s.t.length c'] := h.bx.fr' hf (fun hd => by have := hD _ hd; omega)
  refine ⟨a2, c2, rfl, hbx, hsz, hb.set_ _ _ (.inl (by simp)), by have := hbx.set_ 1 (.slice a2 (s.t.length + 1) c2); simpa using this, (h.by_.fr' hf (fun hd => by have := hD _ hd; omega)).far (by simp; omega) _,
      (h.rd.fr hf (fun b hb => by have := hD b hb; omega)).keep (fun k hk => Below.heap_setCell _ _ _ _ (by simp; omega)), (h.on.fr hf (fun b hb => by have := hD b hb; omega)).set (.inr (by simp; omega)) _, h.gl, h.xl, by omega⟩
end
end Go.Proofs.Ytklmpagpkeffjaa

/- l91Sheet -/
namespace Go.Proofs.Ytklmpagpkeffjaa
open Go.RowKit

/-- A sheet was drawn. -/
def SheetDr (g p : Nat) (w : World) (e : Ending) (w' : World) : Prop := ∃ (s : Sh) (v : Value) (a' : Option Addr) (c' q : Nat), e = .returned (.agg #[v, .slice a' s.t.length c']) ∧ ShD w' w.heap.size w'.heap.size s v a' c' ∧ s.t.length = s.m.length ∧ s.m.length ≤ 8 ∧ nodesL s.t ≤ 120 ∧ p ≤ q ∧ q ≤ p + 400 ∧ RdAt w' g q ∧ Only g w w'

set_option maxHeartbeats 3000000 in
theorem sheetD_any (w : World) (g p : Nat) (hr : RdAt w g p) (hp : p ≤ 990000) : Calls Try.prog 46 #[.pointer (some ⟨g, 0, none⟩)] w (SheetDr g p w) := by
  obtain ⟨iB, bi, bz0, bz1, bz2⟩ := info_parts infoBool
  have HIB := Lib.hid (And.intro bi (And.intro bz0 (And.intro bz1 bz2)))
  obtain ⟨iT, ti, tz0, tz1, tz2⟩ := info_parts infoTask
  have HIT := Lib.hid (And.intro ti (And.intro tz0 (And.intro tz1 tz2)))
  have hml : maxLen = 9223372036854775807 := rfl
  have HML := Lib.hid hml
  have hgl := hr.lt
  have hgn : w.heap.size ≠ g := by omega
  have HR0 := Lib.hid (hr.alloc (.cells #[.slice none 0 0, .slice none 0 0] 26))
  have HY0 := Lib.hid (Blk.new w 26 #[.slice none 0 0, .slice none 0 0])
  have HO0 := Lib.hid ((Only.refl g w).alloc (.cells #[.slice none 0 0, .slice none 0 0] 26))
  clear bi bz0 bz1 bz2 ti tz0 tz1 tz2 hml hr
  go_enter Try.func46, Try.ntmps46
  go_wp2_with fail
  refine (pick_any _ g p 7 HR0.out (by omega) (by omega) (by omega)).mono ?_
  rintro e w1 ⟨r, rfl, h0, h1, hrd, ho⟩
  have hr7 := h1 (by omega)
  have hs1 := ho.size
  simp only [World.size_alloc] at hs1
  have HR1 := Lib.hid (hrd.alloc (.cells #[.slice none 0 0, .slice none 0 0] 26))
  have HY1 := Lib.hid ((HY0.out.only ho hgn).alloc (.cells #[.slice none 0 0, .slice none 0 0] 26))
  have HX1 := Lib.hid (Blk.new w1 26 #[.slice none 0 0, .slice none 0 0])
  have HO1 := Lib.hid ((HO0.out.trans ho).alloc (.cells #[.slice none 0 0, .slice none 0 0] 26))
  obtain ⟨n, rfl⟩ : ∃ n : Nat, r = n := ⟨r.toNat, by omega⟩
  clear h1 hrd ho HR0 HO0 HY0
  go_wp2_with fail
  refine (pick_any _ g _ 3 HR1.out (by omega) (by omega) (by omega)).mono ?_
  rintro e w2 ⟨r, rfl, k0, k1, hrd, ho⟩
  have hr3 := k1 (by omega)
  have hXg : w1.heap.size ≠ g := by omega
  have hs2 := ho.size
  simp only [World.size_alloc] at hs2
  have HR2 := Lib.hid hrd
  have HY2 := Lib.hid (HY1.out.only ho hgn)
  have HX2 := Lib.hid (HX1.out.only ho hXg)
  have HO2 := Lib.hid (HO1.out.trans ho)
  obtain ⟨f, rfl⟩ : ∃ f : Nat, r = f := ⟨r.toNat, by omega⟩
  clear k1 hrd ho HR1 HO1 HY1 HX1
  go_wp2_with fail
  refine (pick_any _ g _ 8 HR2.out (by omega) (by omega) (by omega)).mono ?_
  rintro e w3 ⟨r, rfl, l0, l1, hrd, ho⟩
  have hs3 := ho.size
  have HR3 := Lib.hid hrd
  have HY3 := Lib.hid (HY2.out.only ho hgn)
  have HX3 := Lib.hid (HX2.out.only ho hXg)
  have HO3 := Lib.hid (HO2.out.trans ho)
  obtain ⟨wild, hwild⟩ : ∃ b, b = (r == 0) := ⟨_, rfl⟩
  clear l0 l1 hrd ho HR2 HO2 HY2 HX2
  go_upto_region 5 with (fail)
  rw [← hwild]
  clear hwild
  obtain ⟨N, hN⟩ : ∃ N : Nat, (N : Int) = 2 + (n : Int) := ⟨2 + n, by omega⟩
  obtain ⟨fi, hfi⟩ : ∃ N : Nat, (N : Int) = 1 + (f : Int) := ⟨1 + f, by omega⟩
  rw [← hN, ← hfi]
  have hN8 : N ≤ 8 := by omega
  clear hN hfi
  have hst : LSt w w1.heap.size g w3.heap.size w3 ⟨[], []⟩ (.slice none 0 0) none 0 (p + 1 + 1 + 1) :=
    ⟨⟨⟨by simp, .inl ⟨rfl, rfl⟩⟩, (by intro b hb; cases hb), OwS.nil, Nat.le_refl _⟩, HX3.out, HY3.out, HR3.out, HO3.out, hgl, by omega, by omega⟩
  have HST := Lib.hid hst
  clear hst HX3 HY3 HR3 HO3
  go_wp2_with fail
  go_loopw [7, 8, 9] (fun k _ _ wr => ∃ (s : Sh) (v : Value) (a' : Option Addr) (c' q : Nat), k = .int .i64 s.m.length ∧ s.m.length ≤ N ∧ s.t.length = s.m.length ∧ nodesL s.t ≤ 15 * s.m.length ∧ (p ≤ q ∧ q ≤ p + 3 + 41 * s.m.length) ∧ LSt w w1.heap.size g wr.heap.size wr s v a' c' q) (fun k _ _ _ => N - (intOf k).toNat)
  case atStart => exact ⟨⟨[], []⟩, _, _, _, _, rfl, by simp, rfl, by simp [nodesL], by simp; omega, HST.out⟩
  case round =>
    obtain ⟨s, v, a', c', q, rfl, hsm, hst, hsn, hq, hls⟩ := hrel
    obtain ⟨av, cv, rfl, _⟩ := ElRow.at hls.sh.row
    have HL := Lib.hid hls
    have HTL := Lib.hid hst
    have hst8 : s.t.length ≤ 8 := by omega
    clear hls HST hst
    by_cases hlt : s.m.length < N
    · by_cases hf : s.m.length < fi
      · have HFI := Lib.hid hf
        clear hst8
        have hst8 : s.t.length ≤ 8 := by have := HTL.out; omega
        obtain ⟨x0, x1, _, _⟩ := HL.out.bx.two
        go_wp2_with (at_builtin; refine wpList_append_row _ rfl (.tmp 34) (.tmp 35) 23 rfl (w1.heap.size + 1) 4 iB (.bool false) 1 1 Try.underlying23 HIB.out.1 HIB.out.2.1 HIB.out.2.2.1 HIB.out.2.2.2 rfl (by decide) _ s.m.length (s.m.map Value.bool) rfl (World.ownsRow.alloc HL.out.sh.row _) ⟨wr.heap.size, 0, none⟩ 1 1 [.bool false] rfl rfl ?ba1 ?ba2 (by decide) ?ba3 ?ba4 ?ba5 ?_)
        case ba1 => exact news1 _ _ _
        case ba2 => simp [Value.oneCell']
        case ba3 => rw [HML.out]; omega
        case ba4 => omega
        case ba5 => have := HL.out.ml; have := HL.out.sh.le; simp; omega
        intro v5 w5 hown hgr hnv
        obtain ⟨⟨av5, cv5, rfl⟩, hbx, hsz5, hl5⟩ := (HL.out.alloc (.cells #[.bool false] 4)).bool (x := false) hown hgr (by simpa using hnv)
        simp only [World.size_alloc] at hsz5
        clear hown hgr hnv x0 x1
        have H5 := Lib.hid hl5
        obtain ⟨x0, x1, f0, f1⟩ := hbx.two
        clear hl5 hbx
        go_upto_region 10 with (fail)
        clear x0 x1 f0 f1
        obtain ⟨w6, hw6⟩ : ∃ W, W = w5.setCell ⟨w1.heap.size, 0, none⟩ (.slice av5 (s.m.length + 1) cv5) := ⟨_, rfl⟩
        have hs6 : w6.heap.size = w5.heap.size := by rw [hw6]; simp [World.setCell]
        rw [← hw6]
        have h6 : LSt w w1.heap.size g w6.heap.size w6 ⟨s.m ++ [false], s.t⟩ (.slice av5 (s.m.length + 1) cv5) a' c' q := by rw [hs6, hw6]; exact H5.out
        have H6 := Lib.hid h6
        clear hw6 H5 h6 hs6

        obtain ⟨x0, x1, _, _⟩ := H6.out.bx.two
        have hlenT : s.t.length ≤ 1000000 := by omega
        go_wp2_with (at_builtin; refine wpList_append_ow _ rfl (.tmp 39) (.tmp 41) 24 42 rfl iT _ Try.underlying24 HIT.out.1 HIT.out.2.1 HIT.out.2.2.1 HIT.out.2.2.2 rfl (fun b => w1.heap.size + 1 ≤ b ∧ b < w6.heap.size ∧ (Value.slice av5 (s.m.length + 1) cv5).ownBlock ≠ some b) (fun _ => False) s.t a' c' rfl (H6.out.sh.ow.alloc _) hlenT ⟨w6.heap.size, 0, none⟩ 1 rfl (.mk 0 0 []) none 0 ?ta1 ?ta2 ?ta3 OwS.nil ?ta4 ?ta5 ?ta6 ?_)
        case ta1 => intro j u hj; first | (rw [add0, World.cell?_alloc_new, ← hj]; simp [T.k, T.n, T.ps]; done) | exact hj | simpa [T.k, T.n, T.ps] using hj
        case ta2 => simp [T.k, i64ok]
        case ta3 => simp [T.n, i64ok]
        case ta5 => intro b hb; have := H6.out.sh.le; first | omega | (simp; omega)
        intro v7 w7 hgr
        obtain ⟨a7, c7, rfl, hbx, hsz7, hl7⟩ := (H6.out.alloc _).task (t := (.mk 0 0 [])) (F1 := (fun _ => False)) (fun b hb => hb.elim) hgr
        simp only [World.size_alloc] at hsz7
        have H7 := Lib.hid hl7
        clear hgr hl7 x0 x1
        obtain ⟨x0, x1, f0, f1⟩ := hbx.two
        clear hbx
        go_wp2_with fail
        clear x0 x1 f0 f1
        go_roundw
        case rel => exact ⟨_, _, _, _, _, by simp only [List.length_append, List.length_singleton]; go_num, by simp only [List.length_append, List.length_singleton]; omega, by have := HTL.out; simp only [List.length_append, List.length_singleton]; omega, by rw [nodesL_append]; simp only [nodesL, T.nodes, List.length_append, List.length_singleton]; omega, by simp only [List.length_append, List.length_singleton]; omega, H7.out.up (by simp [World.setCell]) (Nat.le_refl _)⟩
        case measure => simp [intOf]; omega
      · go_wp2_with fail
        refine (pick_any _ g _ 10 HL.out.rd (by omega) (by omega) (by omega)).mono ?_
        rintro e w4 ⟨r4, rfl, m0, m1, hrd, ho⟩
        have hs4 := ho.size
        have HL4 := Lib.hid (HL.out.only ho hrd)
        clear hrd ho m1 HL
        by_cases hr0 : r4 = 0
        · subst hr0
          obtain ⟨x0, x1, _, _⟩ := HL4.out.bx.two
          go_wp2_with (at_builtin; refine wpList_append_row _ rfl (.tmp 34) (.tmp 35) 23 rfl (w1.heap.size + 1) 4 iB (.bool false) 1 1 Try.underlying23 HIB.out.1 HIB.out.2.1 HIB.out.2.2.1 HIB.out.2.2.2 rfl (by decide) _ s.m.length (s.m.map Value.bool) rfl (World.ownsRow.alloc HL4.out.sh.row _) ⟨w4.heap.size, 0, none⟩ 1 1 [.bool false] rfl rfl ?bc1 ?bc2 (by decide) ?bc3 ?bc4 ?bc5 ?_)
          case bc1 => exact news1 _ _ _
          case bc2 => simp [Value.oneCell']
          case bc3 => rw [HML.out]; omega
          case bc4 => omega
          case bc5 => have := HL4.out.ml; have := HL4.out.sh.le; simp; omega
          intro v5 w5 hown hgr hnv
          obtain ⟨⟨av5, cv5, rfl⟩, hbx, hsz5, hl5⟩ := (HL4.out.alloc (.cells #[.bool false] 4)).bool (x := false) hown hgr (by simpa using hnv)
          simp only [World.size_alloc] at hsz5
          clear hown hgr hnv x0 x1
          have H5 := Lib.hid hl5
          obtain ⟨x0, x1, f0, f1⟩ := hbx.two
          clear hl5 hbx
          go_upto_region 10 with (fail)
          clear x0 x1 f0 f1
          obtain ⟨w6, hw6⟩ : ∃ W, W = w5.setCell ⟨w1.heap.size, 0, none⟩ (.slice av5 (s.m.length + 1) cv5) := ⟨_, rfl⟩
          have hs6 : w6.heap.size = w5.heap.size := by rw [hw6]; simp [World.setCell]
          rw [← hw6]
          have h6 : LSt w w1.heap.size g w6.heap.size w6 ⟨s.m ++ [false], s.t⟩ (.slice av5 (s.m.length + 1) cv5) a' c' (q + 1) := by rw [hs6, hw6]; exact H5.out
          have H6 := Lib.hid h6
          clear hw6 H5 h6 hs6

          obtain ⟨x0, x1, _, _⟩ := H6.out.bx.two
          have hlenT : s.t.length ≤ 1000000 := by omega
          go_wp2_with (at_builtin; refine wpList_append_ow _ rfl (.tmp 39) (.tmp 41) 24 42 rfl iT _ Try.underlying24 HIT.out.1 HIT.out.2.1 HIT.out.2.2.1 HIT.out.2.2.2 rfl (fun b => w1.heap.size + 1 ≤ b ∧ b < w6.heap.size ∧ (Value.slice av5 (s.m.length + 1) cv5).ownBlock ≠ some b) (fun _ => False) s.t a' c' rfl (H6.out.sh.ow.alloc _) hlenT ⟨w6.heap.size, 0, none⟩ 1 rfl (.mk 0 0 []) none 0 ?tc1 ?tc2 ?tc3 OwS.nil ?tc4 ?tc5 ?tc6 ?_)
          case tc1 => intro j u hj; first | (rw [add0, World.cell?_alloc_new, ← hj]; simp [T.k, T.n, T.ps]; done) | exact hj | simpa [T.k, T.n, T.ps] using hj
          case tc2 => simp [T.k, i64ok]
          case tc3 => simp [T.n, i64ok]
          case tc5 => intro b hb; have := H6.out.sh.le; first | omega | (simp; omega)
          intro v7 w7 hgr
          obtain ⟨a7, c7, rfl, hbx, hsz7, hl7⟩ := (H6.out.alloc _).task (t := (.mk 0 0 [])) (F1 := (fun _ => False)) (fun b hb => hb.elim) hgr
          simp only [World.size_alloc] at hsz7
          have H7 := Lib.hid hl7
          clear hgr hl7 x0 x1
          obtain ⟨x0, x1, f0, f1⟩ := hbx.two
          clear hbx
          go_wp2_with fail
          clear x0 x1 f0 f1
          go_roundw
          case rel => exact ⟨_, _, _, _, _, by simp only [List.length_append, List.length_singleton]; go_num, by simp only [List.length_append, List.length_singleton]; omega, by have := HTL.out; simp only [List.length_append, List.length_singleton]; omega, by rw [nodesL_append]; simp only [nodesL, T.nodes, List.length_append, List.length_singleton]; omega, by simp only [List.length_append, List.length_singleton]; omega, H7.out.up (by simp [World.setCell]) (Nat.le_refl _)⟩
          case measure => simp [intOf]; omega
        · have hr0b : (r4 == 0) = false := by simp [hr0]
          clear hr0
          obtain ⟨x0, x1, _, _⟩ := HL4.out.bx.two
          go_wp2_with (at_builtin; refine wpList_append_row _ rfl (.tmp 45) (.tmp 46) 23 rfl (w1.heap.size + 1) 4 iB (.bool false) 1 1 Try.underlying23 HIB.out.1 HIB.out.2.1 HIB.out.2.2.1 HIB.out.2.2.2 rfl (by decide) _ s.m.length (s.m.map Value.bool) rfl (World.ownsRow.alloc HL4.out.sh.row _) ⟨w4.heap.size, 0, none⟩ 1 1 [.bool true] rfl rfl ?bb1 ?bb2 (by decide) ?bb3 ?bb4 ?bb5 ?_)
          case bb1 => exact news1 _ _ _
          case bb2 => simp [Value.oneCell']
          case bb3 => rw [HML.out]; omega
          case bb4 => omega
          case bb5 => have := HL4.out.ml; have := HL4.out.sh.le; simp; omega
          intro v5 w5 hown hgr hnv
          obtain ⟨⟨av5, cv5, rfl⟩, hbx, hsz5, hl5⟩ := (HL4.out.alloc (.cells #[.bool true] 4)).bool (x := true) hown hgr (by simpa using hnv)
          simp only [World.size_alloc] at hsz5
          clear hown hgr hnv x0 x1
          have H5 := Lib.hid hl5
          obtain ⟨x0, x1, f0, f1⟩ := hbx.two
          clear hl5 hbx
          go_upto_region 12 with (fail)
          clear x0 x1 f0 f1
          obtain ⟨w6, hw6⟩ : ∃ W, W = w5.setCell ⟨w1.heap.size, 0, none⟩ (.slice av5 (s.m.length + 1) cv5) := ⟨_, rfl⟩
          have hs6 : w6.heap.size = w5.heap.size := by rw [hw6]; simp [World.setCell]
          rw [← hw6]
          have h6 : LSt w w1.heap.size g w6.heap.size w6 ⟨s.m ++ [true], s.t⟩ (.slice av5 (s.m.length + 1) cv5) a' c' (q + 1) := by rw [hs6, hw6]; exact H5.out
          have H6 := Lib.hid h6
          clear hw6 H5 h6 hs6
          cases wild
          · go_wp2_with fail
            refine (fit_any _ g _ _ H6.out.rd (by omega) (by omega) (by omega)).mono ?_
            rintro e w8 ⟨t, at8, ct8, q8, rfl, how8, ok1, ok2, hok, hp0, hp1, hrd, ho⟩
            have hs8 := ho.size
            have hn15 : t.nodes ≤ 15 := by have := hok; simp [T.ok] at this; exact this.2
            have hfit : t.fit = true := by have := hok; simp [T.ok] at this; exact this.1
            have H8 := Lib.hid ((H6.out.only ho hrd).alloc (.cells #[.int .i64 t.k, .int .i64 t.n, .slice at8 t.ps.length ct8] 42))
            have HT8 := Lib.hid (how8.alloc (.cells #[.int .i64 t.k, .int .i64 t.n, .slice at8 t.ps.length ct8] 42))
            have HB8 := Lib.hid (Blk.new w8 42 #[.int .i64 t.k, .int .i64 t.n, .slice at8 t.ps.length ct8])
            have HOK := Lib.hid (And.intro ok1 ok2)
            have HFT := Lib.hid hfit
            clear how8 ok1 ok2 hok hrd ho hfit H6

            obtain ⟨z0, z1, z2, _, _, _⟩ := HB8.out.three
            go_wp2_with fail
            refine (lower_any t _ _ _ _ _ HFT.out HOK.out.1 HOK.out.2 HT8.out (fun b hb => by simp; omega)).mono ?_
            rintro e w9 ⟨a9, c9, rfl, ok3, ok4, how9, hfr⟩
            have hs9 := hfr.size
            simp only [World.size_alloc] at hs9
            have H9 := Lib.hid (H8.out.fr hfr (fun b hb => hb.1))
            have hb9 := HB8.out.fr' hfr (fun h => by omega)
            have HB9 := Lib.hid hb9
            have HT9 := Lib.hid how9
            have HK10 := Lib.hid (And.intro ok3 ok4)
            clear z0 z1 z2 ok3 ok4 how9 hfr H8 HT8 HB8
            obtain ⟨z0, z1, z2, f0, f1, f2⟩ := hb9.three
            clear hb9
            go_upto_region 18 with (fail)
            clear z0 z1 z2 f0 f1 f2
            obtain ⟨w10, hw10⟩ : ∃ W, W = set3 w9 w8.heap.size (.int .i64 t.low.k) (.int .i64 t.low.n) (.slice a9 t.low.ps.length c9) := ⟨_, rfl⟩
            have hs10 : w8.heap.size < w10.heap.size := by rw [hw10, set3_size]; omega
            have h10 : LSt w w1.heap.size g w6.heap.size w10 ⟨s.m ++ [true], s.t⟩ (.slice av5 (s.m.length + 1) cv5) a' c' q8 := by
              rw [hw10]
              exact H9.out.put _ (by omega) _ _ _
            have ht10 : OwS w10 42 (fun b => w6.heap.size ≤ b ∧ b < w8.heap.size) t.low.ps a9 c9 := by rw [hw10]; exact HT9.out.set3 (fun b hb => by omega) _ _ _
            have hb10 : Blk w10 w8.heap.size 42 #[.int .i64 t.low.k, .int .i64 t.low.n, .slice a9 t.low.ps.length c9] := by
              rw [hw10]; have := ((HB9.out.set_ 0 (.int .i64 t.low.k)).set_ 1 (.int .i64 t.low.n)).set_ 2 (.slice a9 t.low.ps.length c9); simpa [set3] using this
            unfold set3 at hw10
            rw [← hw10]
            have H10 := Lib.hid h10
            have HT10 := Lib.hid ht10
            have HB10 := Lib.hid hb10
            have HS10 := Lib.hid hs10
            have HN10 := Lib.hid (Nat.le_trans t.low_nodes hn15)
            clear hw10 h10 ht10 hb10 hs10 H9 HT9 HB9

            obtain ⟨z0, z1, z2, _, _, _⟩ := HB10.out.three

            obtain ⟨x0, x1, _, _⟩ := H10.out.bx.two
            have hlenT : s.t.length ≤ 1000000 := by omega
            go_wp2_with (at_builtin; refine wpList_append_ow _ rfl (.tmp 61) (.tmp 63) 24 42 rfl iT _ Try.underlying24 HIT.out.1 HIT.out.2.1 HIT.out.2.2.1 HIT.out.2.2.2 rfl (fun b => w1.heap.size + 1 ≤ b ∧ b < w6.heap.size ∧ (Value.slice av5 (s.m.length + 1) cv5).ownBlock ≠ some b) (fun b => w6.heap.size ≤ b ∧ b < w8.heap.size) s.t a' c' rfl (H10.out.sh.ow.alloc _) hlenT ⟨w10.heap.size, 0, none⟩ 1 rfl t.low a9 c9 ?te1 ?te2 ?te3 (HT10.out.alloc _) ?te4 ?te5 ?te6 ?_)
            case te2 => exact HK10.out.1
            case te3 => exact HK10.out.2
            case te4 => intro b hb hb2; omega
            case te5 => intro b hb; have := H10.out.sh.le; first | omega | (simp; omega)
            case te6 => intro b hb; have := HS10.out; first | omega | (simp; omega)
            intro v7 w7 hgr
            obtain ⟨a7, c7, rfl, hbx, hsz7, hl7⟩ := (H10.out.alloc _).task (t := t.low) (F1 := (fun b => w6.heap.size ≤ b ∧ b < w8.heap.size)) (fun b hb => by have := HS10.out; simp; omega) hgr
            simp only [World.size_alloc] at hsz7
            have H7 := Lib.hid hl7
            clear hgr hl7 x0 x1
            obtain ⟨x0, x1, f0, f1⟩ := hbx.two
            clear hbx
            go_wp2_with fail
            clear x0 x1 f0 f1
            go_roundw
            case rel => exact ⟨_, _, _, _, _, by simp only [List.length_append, List.length_singleton]; go_num, by simp only [List.length_append, List.length_singleton]; omega, by have := HTL.out; simp only [List.length_append, List.length_singleton]; omega, by rw [nodesL_append]; have := HN10.out; simp only [nodesL, List.length_append, List.length_singleton]; omega, by simp only [List.length_append, List.length_singleton]; omega, H7.out.up (by simp [World.setCell]) (Nat.le_refl _)⟩
            case measure => simp [intOf]; omega
          · go_wp2_with fail
            refine (fit_any _ g _ _ H6.out.rd (by omega) (by omega) (by omega)).mono ?_
            rintro e w8 ⟨t, at8, ct8, q8, rfl, how8, ok1, ok2, hok, hp0, hp1, hrd, ho⟩
            have hs8 := ho.size
            have hn15 : t.nodes ≤ 15 := by have := hok; simp [T.ok] at this; exact this.2
            have hfit : t.fit = true := by have := hok; simp [T.ok] at this; exact this.1
            have H8 := Lib.hid ((H6.out.only ho hrd).alloc (.cells #[.int .i64 t.k, .int .i64 t.n, .slice at8 t.ps.length ct8] 42))
            have HT8 := Lib.hid (how8.alloc (.cells #[.int .i64 t.k, .int .i64 t.n, .slice at8 t.ps.length ct8] 42))
            have HB8 := Lib.hid (Blk.new w8 42 #[.int .i64 t.k, .int .i64 t.n, .slice at8 t.ps.length ct8])
            have HOK := Lib.hid (And.intro ok1 ok2)
            have HFT := Lib.hid hfit
            clear how8 ok1 ok2 hok hrd ho hfit H6

            go_upto_region 18 with (fail)
            obtain ⟨w10, hw10⟩ : ∃ W, W = w8.alloc (.cells #[.int .i64 t.k, .int .i64 t.n, .slice at8 t.ps.length ct8] 42) := ⟨_, rfl⟩
            have hs10 : w8.heap.size < w10.heap.size := by rw [hw10]; simp
            rw [← hw10] at H8 HT8 HB8 ⊢
            have H10 := H8
            have HT10 := HT8
            have HB10 := HB8
            have HK10 := HOK
            have HS10 := Lib.hid hs10
            have HN10 := Lib.hid hn15
            clear hw10 H8 HT8 HB8 HOK hs10

            obtain ⟨z0, z1, z2, _, _, _⟩ := HB10.out.three

            obtain ⟨x0, x1, _, _⟩ := H10.out.bx.two
            have hlenT : s.t.length ≤ 1000000 := by omega
            go_wp2_with (at_builtin; refine wpList_append_ow _ rfl (.tmp 61) (.tmp 63) 24 42 rfl iT _ Try.underlying24 HIT.out.1 HIT.out.2.1 HIT.out.2.2.1 HIT.out.2.2.2 rfl (fun b => w1.heap.size + 1 ≤ b ∧ b < w6.heap.size ∧ (Value.slice av5 (s.m.length + 1) cv5).ownBlock ≠ some b) (fun b => w6.heap.size ≤ b ∧ b < w8.heap.size) s.t a' c' rfl (H10.out.sh.ow.alloc _) hlenT ⟨w10.heap.size, 0, none⟩ 1 rfl t at8 ct8 ?td1 ?td2 ?td3 (HT10.out.alloc _) ?td4 ?td5 ?td6 ?_)
            case td2 => exact HK10.out.1
            case td3 => exact HK10.out.2
            case td4 => intro b hb hb2; omega
            case td5 => intro b hb; have := H10.out.sh.le; first | omega | (simp; omega)
            case td6 => intro b hb; have := HS10.out; first | omega | (simp; omega)
            intro v7 w7 hgr
            obtain ⟨a7, c7, rfl, hbx, hsz7, hl7⟩ := (H10.out.alloc _).task (t := t) (F1 := (fun b => w6.heap.size ≤ b ∧ b < w8.heap.size)) (fun b hb => by have := HS10.out; simp; omega) hgr
            simp only [World.size_alloc] at hsz7
            have H7 := Lib.hid hl7
            clear hgr hl7 x0 x1
            obtain ⟨x0, x1, f0, f1⟩ := hbx.two
            clear hbx
            go_wp2_with fail
            clear x0 x1 f0 f1
            go_roundw
            case rel => exact ⟨_, _, _, _, _, by simp only [List.length_append, List.length_singleton]; go_num, by simp only [List.length_append, List.length_singleton]; omega, by have := HTL.out; simp only [List.length_append, List.length_singleton]; omega, by rw [nodesL_append]; have := HN10.out; simp only [nodesL, List.length_append, List.length_singleton]; omega, by simp only [List.length_append, List.length_singleton]; omega, H7.out.up (by simp [World.setCell]) (Nat.le_refl _)⟩
            case measure => simp [intOf]; omega
    · have HLE := Lib.hid (show s.m.length = N by omega)
      obtain ⟨x0, x1, _, _⟩ := HL.out.bx.two
      obtain ⟨y0, y1, f0, f1⟩ := HL.out.by_.two
      go_wp2_with fail
      refine bodyPost_ret (v := .agg #[.slice av s.m.length cv, .slice a' s.t.length c']) (by simp [results, Try.results46, go_sem, y0, y1]) rfl ?_
      have h := HL.out
      have hm := h.ml
      have hx := h.xl
      have h1 := (h.sh.set_ ⟨w.heap.size, 0, none⟩ (.slice av s.m.length cv) (.inl (by simp; omega))).set_ ⟨w.heap.size, 1, none⟩ (.slice a' s.t.length c') (.inl (by simp; omega))
      exact ⟨s, .slice av s.m.length cv, a', c', q, rfl, (h1.low (by omega)).up (by simp [World.setCell]) (Nat.le_refl _), HTL.out, by omega, by omega, by omega, by omega,
        h.rd.keep (fun k hk => by rw [Below.heap_setCell _ _ _ _ (by simp; omega), Below.heap_setCell _ _ _ _ (by simp; omega)]), (h.on.set (.inr (by simp)) _).set (.inr (by simp)) _⟩
end Go.Proofs.Ytklmpagpkeffjaa

/- l91Inputs -/
namespace Go.Proofs.Ytklmpagpkeffjaa
open Go.RowKit

/-- Values for a sheet were drawn. -/
def InpD (g p : Nat) (w : World) (e : Ending) (w' : World) : Prop := ∃ (l : List Int) (v : Value) (q : Nat), e = .returned v ∧ NumRow w' w.heap.size v l ∧ l.length ≤ 9 ∧ (∀ x ∈ l, -1 ≤ x ∧ x ≤ 97) ∧ p ≤ q ∧ q ≤ p + 100 ∧ RdAt w' g q ∧ Only g w w'

set_option maxHeartbeats 3000000 in
theorem inputs_any (w : World) (g p : Nat) (a : Option Addr) (n c : Nat) (b' : Option Addr) (n' c' : Nat) (hr : RdAt w g p) (hp : p ≤ 990000) (hn8 : n ≤ 8) : Calls Try.prog 65 #[.pointer (some ⟨g, 0, none⟩), .agg #[.slice a n c, .slice b' n' c']] w (InpD g p w) := by
  obtain ⟨iN, ni, nz0, nz1, nz2⟩ := info_parts infoInt
  have HIN := Lib.hid (And.intro ni (And.intro nz0 (And.intro nz1 nz2)))
  have hml : maxLen = 9223372036854775807 := rfl
  have HML := Lib.hid hml
  have hgl := hr.lt
  have hgn : w.heap.size ≠ g := by omega
  obtain ⟨ts, hts⟩ : ∃ v, v = Value.slice b' n' c' := ⟨_, rfl⟩
  have HR0 := Lib.hid ((hr.alloc (.cells #[.slice a n c, .slice b' n' c'] 26)).alloc (.cells #[] 3))
  have hn0 := rowN_new (w.alloc (.cells #[.slice a n c, .slice b' n' c'] 26))
  simp only [World.size_alloc] at hn0
  have HN0 := Lib.hid hn0
  have HO0 := Lib.hid (((Only.refl g w).alloc (.cells #[.slice a n c, .slice b' n' c'] 26)).alloc (.cells #[] 3))
  have hk0 := (Blk.new w 26 #[.slice a n c, .slice b' n' c']).alloc (.cells #[] 3)
  have HK0 := Lib.hid hk0
  have HTS := Lib.hid hts
  clear ni nz0 nz1 nz2 hml hr hn0 hk0 hts
  go_enter Try.func65, Try.ntmps65
  go_wp2_with fail
  refine (pick_any _ g p 2 HR0.out (by omega) (by omega) (by omega)).mono ?_
  rintro e w1 ⟨r0, rfl, h0, h1, hrd, ho⟩
  have hs1 := ho.size
  simp only [World.size_alloc] at hs1
  have HN1 := Lib.hid (HN0.out.only ho (by omega))
  have HR1 := Lib.hid hrd
  have HO1 := Lib.hid (HO0.out.trans ho)
  have hk1 := HK0.out.only ho hgn
  rw [← HTS.out] at hk1
  have HK1 := Lib.hid hk1
  obtain ⟨small, hsm⟩ : ∃ b, b = (r0 == 0) := ⟨_, rfl⟩
  clear h0 h1 hrd ho hk1 HN0 HR0 HO0 HK0
  go_upto_region 3 with (fail)
  rw [← hsm]
  clear hsm
  go_wp2_with fail
  go_loopw [5, 7, 8] (fun v k _ wr => ∃ (l : List Int) (q : Nat), k = .int .i64 l.length ∧ l.length ≤ n ∧ NumRow wr (w.heap.size + 1) v l ∧ (∀ x ∈ l, 0 ≤ x ∧ x ≤ 97) ∧ RdAt wr g q ∧ (p ≤ q ∧ q ≤ p + 1 + 2 * l.length) ∧ Only g w wr ∧ Blk wr w.heap.size 26 #[.slice a n c, ts]) (fun _ k _ _ => n - (intOf k).toNat)
  case atStart => exact ⟨[], _, rfl, by simp, HN1.out, by simp, HR1.out, by simp, HO1.out, HK1.out⟩
  case round =>
    obtain ⟨l, q, rfl, hln, hnr, hb, hrd, hq, ho, hk⟩ := hrel
    obtain ⟨av, cv, rfl, _⟩ := hnr.at (fun y hy => by have := hb y hy; unfold i64ok; omega)
    have HN := Lib.hid hnr
    have HB := Lib.hid hb
    have HR := Lib.hid hrd
    have HO := Lib.hid ho
    have HK := Lib.hid hk
    have hws : w.heap.size < wr.heap.size := hk.lt
    have hl12 : l.length ≤ 8 := by omega
    obtain ⟨x0, x1, _, _⟩ := hk.two
    clear hnr hb hrd ho hk HN1 HR1 HO1 HK1
    by_cases hlt : l.length < n
    · go_wp2_with fail
      refine (pick_any _ g _ 97 HR.out (by omega) (by omega) (by omega)).mono ?_
      rintro e w4 ⟨r, rfl, h0, h1, hrd, ho⟩
      have hr97 := h1 (by omega)
      have hs4 := ho.size
      have HN4 := Lib.hid (HN.out.only ho (by omega))
      have HR4 := Lib.hid hrd
      have HO4 := Lib.hid (HO.out.trans ho)
      have HK4 := Lib.hid (HK.out.only ho hgn)
      have HWS := Lib.hid (show w.heap.size + 1 ≤ w4.heap.size by omega)
      clear h1 hrd ho HN HR HO HK x0 x1
      cases small
      · go_wp2_with (at_builtin; refine wpList_append_row _ rfl (.tmp 25) (.tmp 27) 30 rfl (w.heap.size + 1) 3 iN (.int .i64 0) 1 8 Try.underlying30 HIN.out.1 HIN.out.2.1 HIN.out.2.2.1 HIN.out.2.2.2 rfl (by decide) _ l.length (l.map (Value.int .i64)) rfl (World.ownsRow.alloc HN4.out _) ⟨w4.heap.size, 0, none⟩ 1 1 [.int .i64 r] rfl rfl ?ap1 ?ap2 (by decide) ?ap3 ?ap4 ?ap5 ?_)
        case ap1 => exact news1 _ _ _
        case ap2 => simp [Value.oneCell']
        case ap3 => rw [HML.out]; omega
        case ap4 => omega
        case ap5 => have := HWS.out; simp; omega
        intro v7 w7 hown hgr _
        have hge := own_ge HN4.out
        have hN7 : NumRow w7 (w.heap.size + 1) v7 (l ++ [r]) := by
          unfold NumRow
          rw [List.map_append, show (l ++ [(r : Int)]).length = l.length + 1 by simp]
          exact hown
        obtain ⟨a7, c7, rfl, _⟩ := hN7.at (fun y hy => by
          rcases List.mem_append.1 hy with hy | hy
          · have := HB.out y hy; unfold i64ok; omega
          · rw [List.mem_singleton.1 hy]; unfold i64ok; omega)
        have hR7 := (HR4.out.alloc (.cells #[.int .i64 r] 3)).grown hgr (fun k hk => by have := hge k hk; omega)
        have hO7 := only_grown (HO4.out.alloc (.cells #[.int .i64 r] 3)) hgr (fun k hk => by have := hge k hk; omega)

        have hK7 : Blk w7 w.heap.size 26 #[.slice a n c, ts] := (HK4.out.alloc (.cells #[.int .i64 r] 3)).fr' (grownBy_fr hgr) (fun hd => by have := hge _ hd; omega)
        have H7 := Lib.hid (And.intro hN7 (And.intro hR7 (And.intro hO7 hK7)))
        clear hown hgr hge hN7 hR7 hO7 hK7
        go_wp2_with fail
        go_roundw
        case rel =>
          refine ⟨l ++ [r], _, by simp only [List.length_append, List.length_singleton]; go_num, by simp; omega, by simpa using H7.out.1, ?_, H7.out.2.1, by simp only [List.length_append, List.length_singleton]; omega, H7.out.2.2.1, H7.out.2.2.2⟩
          intro y hy
          rcases List.mem_append.1 hy with hy | hy
          · exact HB.out y hy
          · rw [List.mem_singleton.1 hy]; omega
        case measure => simp [intOf]; omega
      · go_wp2_with fail
        refine (pick_any _ g _ 3 HR4.out (by omega) (by omega) (by omega)).mono ?_
        rintro e w5 ⟨r2, rfl, k0, k1, hrd, ho⟩
        have hr23 := k1 (by omega)
        have hs5 := ho.size
        have HN5 := Lib.hid (HN4.out.only ho (by omega))
        have HR5 := Lib.hid hrd
        have HO5 := Lib.hid (HO4.out.trans ho)
        have HK5 := Lib.hid (HK4.out.only ho hgn)
        clear HWS
        have HWS := Lib.hid (show w.heap.size + 1 ≤ w5.heap.size by omega)
        clear k1 hrd ho HN4 HR4 HO4 HK4
        go_wp2_with (at_builtin; refine wpList_append_row _ rfl (.tmp 25) (.tmp 27) 30 rfl (w.heap.size + 1) 3 iN (.int .i64 0) 1 8 Try.underlying30 HIN.out.1 HIN.out.2.1 HIN.out.2.2.1 HIN.out.2.2.2 rfl (by decide) _ l.length (l.map (Value.int .i64)) rfl (World.ownsRow.alloc HN5.out _) ⟨w5.heap.size, 0, none⟩ 1 1 [.int .i64 r2] rfl rfl ?aq1 ?aq2 (by decide) ?aq3 ?aq4 ?aq5 ?_)
        case aq1 => exact news1 _ _ _
        case aq2 => simp [Value.oneCell']
        case aq3 => rw [HML.out]; omega
        case aq4 => omega
        case aq5 => have := HWS.out; simp; omega
        intro v7 w7 hown hgr _
        have hge := own_ge HN5.out
        have hN7 : NumRow w7 (w.heap.size + 1) v7 (l ++ [r2]) := by
          unfold NumRow
          rw [List.map_append, show (l ++ [(r2 : Int)]).length = l.length + 1 by simp]
          exact hown
        obtain ⟨a7, c7, rfl, _⟩ := hN7.at (fun y hy => by
          rcases List.mem_append.1 hy with hy | hy
          · have := HB.out y hy; unfold i64ok; omega
          · rw [List.mem_singleton.1 hy]; unfold i64ok; omega)
        have hR7 := (HR5.out.alloc (.cells #[.int .i64 r2] 3)).grown hgr (fun k hk => by have := hge k hk; omega)
        have hO7 := only_grown (HO5.out.alloc (.cells #[.int .i64 r2] 3)) hgr (fun k hk => by have := hge k hk; omega)

        have hK7 : Blk w7 w.heap.size 26 #[.slice a n c, ts] := (HK5.out.alloc (.cells #[.int .i64 r2] 3)).fr' (grownBy_fr hgr) (fun hd => by have := hge _ hd; omega)
        have H7 := Lib.hid (And.intro hN7 (And.intro hR7 (And.intro hO7 hK7)))
        clear hown hgr hge hN7 hR7 hO7 hK7
        go_wp2_with fail
        go_roundw
        case rel =>
          refine ⟨l ++ [r2], _, by simp only [List.length_append, List.length_singleton]; go_num, by simp; omega, by simpa using H7.out.1, ?_, H7.out.2.1, by simp only [List.length_append, List.length_singleton]; omega, H7.out.2.2.1, H7.out.2.2.2⟩
          intro y hy
          rcases List.mem_append.1 hy with hy | hy
          · exact HB.out y hy
          · rw [List.mem_singleton.1 hy]; omega
        case measure => simp [intOf]; omega
    · have HLN := Lib.hid (show l.length = n by omega)
      go_wp2_with fail
      refine (pick_any _ g _ 25 HR.out (by omega) (by omega) (by omega)).mono ?_
      rintro e w4 ⟨r, rfl, h0, h1, hrd, ho⟩
      have hs4 := ho.size
      have HN4 := Lib.hid (HN.out.only ho (by omega))
      have HR4 := Lib.hid hrd
      have HO4 := Lib.hid (HO.out.trans ho)
      clear h1 hrd ho HN HR HO HK x0 x1
      by_cases hr0 : r = 0
      · subst hr0
        go_wp2_with fail
        refine (num_any _ g (q + 1) w4.heap.size 3 (-1) (97) (fun i => if i = 0 then 0 else if i = 1 then 97 else -1) (HR4.out.alloc _) (by omega) (by omega) (by omega) (by omega) ?_).mono ?_
        · intro i hi
          have hi' : i = 0 ∨ i = 1 ∨ i = 2 := by omega
          rcases hi' with rfl | rfl | rfl <;> (rw [World.cell?_alloc_new]; simp)
        rintro e w6 ⟨r6, p6, rfl, hv0, hv1, hp2, hp3, hrd, ho⟩
        have hs6 := ho.size
        simp only [World.size_alloc] at hs6
        have HN6 := Lib.hid (NumRow.only (World.ownsRow.alloc HN4.out _) ho (by omega))
        have HR6 := Lib.hid hrd
        have HO6 := Lib.hid ((HO4.out.alloc _).trans ho)
        have HWS := Lib.hid (show w.heap.size + 1 ≤ w6.heap.size by omega)
        clear hrd ho HN4 HR4 HO4
        go_wp2_with (at_builtin; refine wpList_append_row _ rfl (.tmp 32) (.tmp 36) 30 rfl (w.heap.size + 1) 3 iN (.int .i64 0) 1 8 Try.underlying30 HIN.out.1 HIN.out.2.1 HIN.out.2.2.1 HIN.out.2.2.2 rfl (by decide) _ l.length (l.map (Value.int .i64)) rfl (World.ownsRow.alloc HN6.out _) ⟨w6.heap.size, 0, none⟩ 1 1 [.int .i64 r6] rfl rfl ?ar1 ?ar2 (by decide) ?ar3 ?ar4 ?ar5 ?_)
        case ar1 => exact news1 _ _ _
        case ar2 => simp [Value.oneCell']
        case ar3 => rw [HML.out]; omega
        case ar4 => omega
        case ar5 => have := HWS.out; simp; omega
        intro v7 w7 hown hgr _
        have hge := own_ge HN6.out
        have hN7 : NumRow w7 (w.heap.size + 1) v7 (l ++ [r6]) := by
          unfold NumRow
          rw [List.map_append, show (l ++ [(r6 : Int)]).length = l.length + 1 by simp]
          exact hown
        obtain ⟨a7, c7, rfl, _⟩ := hN7.at (fun y hy => by
          rcases List.mem_append.1 hy with hy | hy
          · have := HB.out y hy; unfold i64ok; omega
          · rw [List.mem_singleton.1 hy]; unfold i64ok; omega)
        have hR7 := (HR6.out.alloc (.cells #[.int .i64 r6] 3)).grown hgr (fun k hk => by have := hge k hk; omega)
        have hO7 := only_grown (HO6.out.alloc (.cells #[.int .i64 r6] 3)) hgr (fun k hk => by have := hge k hk; omega)

        have H7 := Lib.hid (And.intro hN7 (And.intro hR7 hO7))
        clear hown hgr hge hN7 hR7 hO7
        go_wp2_with fail
        go_ret
        refine ⟨l ++ [r6], _, _, rfl, ownsRow_low H7.out.1 (by omega), by simp; omega, ?_, by omega, by omega, H7.out.2.1, H7.out.2.2⟩
        intro y hy
        rcases List.mem_append.1 hy with hy | hy
        · have := HB.out y hy; omega
        · rw [List.mem_singleton.1 hy]; omega
      · have hne : (r == 0) = false := by simpa using hr0
        go_wp2_with fail
        go_ret
        exact ⟨l, _, _, rfl, ownsRow_low HN4.out (by omega), by omega, fun y hy => by have := HB.out y hy; omega, by omega, by omega, HR4.out, HO4.out⟩
end Go.Proofs.Ytklmpagpkeffjaa

/- append of a number onto a row of the call's own, as one step of a region that draws -/
namespace Go.Proofs.Ytklmpagpkeffjaa
open Go.RowKit

theorem run_append_row {P : Program} (w : World) (base : Nat) (t ty e : TypeId) (i : TypeInfo) (z : Value) (size bytes : Nat) (h1 : P.underlying t = some (.slice e)) (h2 : P.info? e = some i) (h3 : i.zero = some z) (h4 : i.size = size) (h5 : i.bytes = bytes) (h6 : z.cells.size = size) (h7 : 0 < size)
    (v : Value) (n : Nat) (xs : List Value) (hown : w.ownsRow base e size v n xs)
    (ad : Addr) (m c : Nat) (news : List Value) (hn : news.length = m * size) (hc : ∀ j u, news[j]? = some u → w.cell? (ad.add j) = some u) (h1c : ∀ u ∈ news, u.oneCell' = true)
    (b1 : n + m ≤ maxLen) (b2 : (n + m) * bytes ≤ 140737488355328) (hbase : base ≤ w.heap.size) :
    ∃ v' w', (Builtin.append_ #[t, t] ty #[v, .slice (some ad) m c]).run P w = .ok v' w' ∧ w'.ownsRow base e size v' (n + m) (xs ++ news) ∧ w.grownBy w' v.ownBlock ∧ (∀ b, v'.ownBlock = some b → v.ownBlock = some b ∨ w.heap.size ≤ b) := by
  have hown0 := hown
  obtain ⟨hl, ⟨rfl, rfl⟩ | ⟨g, cap, cur, rfl, hb, hh, hnc, hcm, hz, ht⟩⟩ := hown
  · obtain rfl : xs = [] := List.length_eq_zero_iff.1 (by simpa using hl)
    obtain ⟨v', w', hr, r1, r2, _⟩ := run_append_own (P := P) w w.heap.size t ty e i z size bytes h1 h2 h3 h4 h5 h6 h7 (.slice none 0 0) 0 [] (World.ownsRow_nil w _ e size) ad m c news hn hc h1c b1 b2 (Nat.le_refl _)
    exact ⟨v', w', hr, ownsRow_low r1 hbase, r2, fun b hb => .inr (own_ge r1 b hb)⟩
  · by_cases hf : n + m ≤ cap
    · obtain ⟨w', hr, r1, r2⟩ := run_append_fits (P := P) w base t ty e i size h1 h2 h4 g n cap xs hown0 ad m c news hn hc h1c hf
      exact ⟨_, w', hr, r1, r2, fun b hb => .inl (by simpa [Value.ownBlock] using hb)⟩
    · obtain ⟨v', w', hr, r1, r2⟩ := run_append_arg_grows (P := P) w t ty e i z size bytes h1 h2 h3 h4 h5 h6 h7 ⟨g, 0, none⟩ n cap xs hl (fun j u hj => hown0.cells rfl j u hj) ad m c news hn hc (by omega) b1 b2
      exact ⟨v', w', hr, ownsRow_low r1 hbase, ⟨r2.os, r2.tape, r2.output, r2.size, fun k hk _ => r2.block k hk (by simp)⟩, fun b hb => .inr (own_ge r1 b hb)⟩

theorem step_append_num {ops : Array Oper} {o : Oper} {a : Act} {w : World} {K : Act → World → Prop} {Q : Exit → Act → World → Prop} {E : Prop}
    (hg : o.guard = none) (s x : Operand) (hop : o.op = Op.call { callee := Callee.builtin Builtin.append, args := #[s, x], argTypes := #[30, 30] })
    (base : Nat) (v : Value) (l : List Int) (hs : a.eval s = v) (hown : NumRow w base v l) (ad : Addr) (k : Int) (hx : a.eval x = .slice (some ad) 1 1) (hc : w.cell? (ad.add 0) = some (.int .i64 k))
    (hl : l.length ≤ 1000000) (hbase : base ≤ w.heap.size)
    (hK : ∀ v' w', NumRow w' base v' (l ++ [k]) → w.grownBy w' v.ownBlock → (∀ b, v'.ownBlock = some b → v.ownBlock = some b ∨ w.heap.size ≤ b) → K (a.put o.dst v') w') :
    if Region.wanted o (yielded ops a.tmps) = true then Oper.wp Try.prog o a w K Q else E := by
  have hw : Region.wanted o (yielded ops a.tmps) = true := by simp [Region.wanted, hg]
  rw [if_pos hw]
  obtain ⟨i, hi, hz0, hz1, hz2⟩ := info_parts infoInt
  have hml : maxLen = 9223372036854775807 := rfl
  obtain ⟨v', w', hrun, h2, h3, h4⟩ := run_append_row (P := Try.prog) w base 30 o.type 3 i (.int .i64 0) 1 8 Try.underlying30 hi hz0 hz1 hz2 rfl (by decide) v l.length (l.map (Value.int .i64)) hown ad 1 1 [.int .i64 k] rfl
    (fun j u hj => by
      match j with
      | 0 => simp at hj; subst hj; exact hc
      | j + 1 => simp at hj) (by simp [Value.oneCell']) (by rw [hml]; omega) (by omega) hbase
  unfold Oper.wp
  simp [execOp, hop, resolve, invoke, builtin, hs, hx, hrun, Result.andThen]
  refine hK v' w' ?_ h3 h4
  unfold NumRow
  rw [List.map_append, List.length_append]
  exact h2

/-- append of nothing -/
theorem run_append_zero {P : Program} (w : World) (t ty e : TypeId) (i : TypeInfo) (h1 : P.underlying t = some (.slice e)) (h2 : P.info? e = some i) (ao : Option Addr) (n cap : Nat) (ax : Option Addr) (c : Nat) (hn : n ≤ cap) :
    (Builtin.append_ #[t, t] ty #[.slice ao n cap, .slice ax 0 c]).run P w = .ok (.slice ao n cap) w := by
  have hfc : (Builtin.firstCells i.size 0 (.slice ax 0 c)).run P w = .ok #[] w := by
    cases ax with
    | none => exact run_firstCells_none w i.size 0 0 c
    | some b => exact run_firstCells_some w i.size 0 b 0 c [] (by simp) (by simp)
  cases ao with
  | none => simp [Builtin.append_, run_underlying h1, sizeOf, typeInfo, h2, Builtin.lenOf, hn, hfc]
  | some b => simp [Builtin.append_, run_underlying h1, sizeOf, typeInfo, h2, Builtin.lenOf, hn, hfc, storeCells]

/-- append of numbers, be they none -/
theorem run_append_ints (w : World) (ty : TypeId) (base : Nat) (v : Value) (l : List Int) (hown : NumRow w base v l) (S : Nat → Prop) (l2 : List Int) (n2 : Nat) (ax : Option Addr) (cx : Nat) (hn2 : n2 = l2.length) (hsrc : IntsAt w S l2 ax cx)
    (hl : l.length + l2.length ≤ 10000000) (hbase : base ≤ w.heap.size) :
    ∃ v' w', (Builtin.append_ #[30, 30] ty #[v, .slice ax n2 cx]).run Try.prog w = .ok v' w' ∧ NumRow w' base v' (l ++ l2) ∧ w.grownBy w' v.ownBlock ∧ (∀ b, v'.ownBlock = some b → v.ownBlock = some b ∨ w.heap.size ≤ b) := by
  obtain ⟨i, hi, hz0, hz1, hz2⟩ := info_parts infoInt
  have hml : maxLen = 9223372036854775807 := rfl
  subst hn2
  rcases Nat.eq_zero_or_pos l2.length with h0 | hp
  · obtain rfl : l2 = [] := List.length_eq_zero_iff.1 h0
    have hgr : w.grownBy w v.ownBlock := ⟨rfl, rfl, rfl, Nat.le_refl _, fun _ _ _ => rfl⟩
    obtain ⟨ao, cap, rfl, hat⟩ := ElRow.at (f := Value.int .i64) (e := 3) hown
    exact ⟨_, w, run_append_zero w 30 ty 3 i Try.underlying30 hi ao l.length cap ax cx hat.1, by rw [List.append_nil]; exact hown, hgr, fun b hb => .inl hb⟩
  · rcases hsrc.2.2.2 with h0 | ⟨b, off, ha, _, hc⟩
    · rw [h0] at hp; simp at hp
    · subst ha
      obtain ⟨v', w', hrun, r1, r2, r3⟩ := run_append_row (P := Try.prog) w base 30 ty 3 i (.int .i64 0) 1 8 Try.underlying30 hi hz0 hz1 hz2 rfl (by decide) v l.length (l.map (Value.int .i64)) hown ⟨b, off, none⟩ l2.length cx (l2.map (Value.int .i64)) (by simp)
        (fun j u hj => by
          rw [List.getElem?_map] at hj
          obtain ⟨y, hy, rfl⟩ := Option.map_eq_some_iff.1 hj
          obtain ⟨hlt, rfl⟩ := List.getElem?_eq_some_iff.1 hy
          have e : (⟨b, off, none⟩ : Addr).add j = ⟨b, off + j, none⟩ := by unfold Addr.add; split <;> simp_all
          rw [e]
          exact hc j hlt) (fun u hu => by obtain ⟨y, _, rfl⟩ := List.mem_map.1 hu; simp [Value.oneCell']) (by rw [hml]; omega) (by omega) hbase
      refine ⟨v', w', hrun, ?_, r2, r3⟩
      unfold NumRow
      rw [List.map_append, List.length_append]
      exact r1
theorem wpList_append_ints (w : World) {ops : Array Oper} {rest : List Oper} {o : Oper} {a : Act} {Q : Exit → Act → World → Prop}
    (hg : o.guard = none) (s x : Operand) (hop : o.op = Op.call { callee := Callee.builtin Builtin.append, args := #[s, x], argTypes := #[30, 30] })
    (base : Nat) (v : Value) (l : List Int) (hs : a.eval s = v) (hown : NumRow w base v l) (S : Nat → Prop) (l2 : List Int) (n2 : Nat) (ax : Option Addr) (cx : Nat) (hn2 : n2 = l2.length) (hx : a.eval x = .slice ax n2 cx) (hsrc : IntsAt w S l2 ax cx)
    (hl : l.length + l2.length ≤ 10000000) (hbase : base ≤ w.heap.size)
    (hK : ∀ v' w', NumRow w' base v' (l ++ l2) → w.grownBy w' v.ownBlock → (∀ b, v'.ownBlock = some b → v.ownBlock = some b ∨ w.heap.size ≤ b) → wpList Try.prog ops Q rest (a.put o.dst v') w') : wpList Try.prog ops Q (o :: rest) a w := by
  refine wpList_plain hg fun K' hK' => ?_
  obtain ⟨v', w', hrun, r1, r2, r3⟩ := run_append_ints w o.type base v l hown S l2 n2 ax cx hn2 hsrc hl hbase
  unfold Oper.wp
  simp [execOp, hop, resolve, invoke, builtin, hs, hx, hrun, Result.andThen]
  exact hK' _ _ (hK v' w' r1 r2 r3)
theorem step_append_ints {ops : Array Oper} {o : Oper} {a : Act} {w : World} {K : Act → World → Prop} {Q : Exit → Act → World → Prop} {E : Prop}
    (hg : o.guard = none) (s x : Operand) (hop : o.op = Op.call { callee := Callee.builtin Builtin.append, args := #[s, x], argTypes := #[30, 30] })
    (base : Nat) (v : Value) (l : List Int) (hs : a.eval s = v) (hown : NumRow w base v l) (S : Nat → Prop) (l2 : List Int) (n2 : Nat) (ax : Option Addr) (cx : Nat) (hn2 : n2 = l2.length) (hx : a.eval x = .slice ax n2 cx) (hsrc : IntsAt w S l2 ax cx)
    (hl : l.length + l2.length ≤ 10000000) (hbase : base ≤ w.heap.size)
    (hK : ∀ v' w', NumRow w' base v' (l ++ l2) → w.grownBy w' v.ownBlock → (∀ b, v'.ownBlock = some b → v.ownBlock = some b ∨ w.heap.size ≤ b) → K (a.put o.dst v') w') :
    if Region.wanted o (yielded ops a.tmps) = true then Oper.wp Try.prog o a w K Q else E := by
  have hw : Region.wanted o (yielded ops a.tmps) = true := by simp [Region.wanted, hg]
  rw [if_pos hw]
  obtain ⟨v', w', hrun, r1, r2, r3⟩ := run_append_ints w o.type base v l hown S l2 n2 ax cx hn2 hsrc hl hbase
  unfold Oper.wp
  simp [execOp, hop, resolve, invoke, builtin, hs, hx, hrun, Result.andThen]
  exact hK v' w' r1 r2 r3
end Go.Proofs.Ytklmpagpkeffjaa

/- l91Keys -/
namespace Go.Proofs.Ytklmpagpkeffjaa
open Go.RowKit

theorem NumRow.al' {w : World} {b : Nat} {v : Value} {l : List Int} (h : NumRow w b v l) (o : Obj) : NumRow (w.alloc o) b v l := World.ownsRow.alloc h o
set_option maxRecDepth 100000 in
set_option maxHeartbeats 3000000 in
theorem keysD_any (w : World) (g p : Nat) (a : Option Addr) (n c : Nat) (b' : Option Addr) (n' c' : Nat) (hr : RdAt w g p) (hp : p ≤ 990000) (hn8 : n ≤ 8) : Calls Try.prog 51 #[.pointer (some ⟨g, 0, none⟩), .agg #[.slice a n c, .slice b' n' c']] w (InpD g p w) := by
  obtain ⟨iN, ni, nz0, nz1, nz2⟩ := info_parts infoInt
  have HIN := Lib.hid (And.intro ni (And.intro nz0 (And.intro nz1 nz2)))
  have hml : maxLen = 9223372036854775807 := rfl
  have HML := Lib.hid hml
  have hgl := hr.lt
  have hgn : w.heap.size ≠ g := by omega
  obtain ⟨ts, hts⟩ : ∃ v, v = Value.slice b' n' c' := ⟨_, rfl⟩
  have HR0 := Lib.hid ((hr.alloc (.cells #[.slice a n c, .slice b' n' c'] 26)).alloc (.cells #[] 3))
  have hn0 := rowN_new (w.alloc (.cells #[.slice a n c, .slice b' n' c'] 26))
  simp only [World.size_alloc] at hn0
  have HN0 := Lib.hid hn0
  have HO0 := Lib.hid (((Only.refl g w).alloc (.cells #[.slice a n c, .slice b' n' c'] 26)).alloc (.cells #[] 3))
  have hk0 := (Blk.new w 26 #[.slice a n c, .slice b' n' c']).alloc (.cells #[] 3)
  have HK0 := Lib.hid hk0
  have HTS := Lib.hid hts
  clear ni nz0 nz1 nz2 hml hr hn0 hk0 hts
  go_enter Try.func51, Try.ntmps51
  go_wp2_with fail
  refine (pick_any _ g p 3 HR0.out (by omega) (by omega) (by omega)).mono ?_
  rintro e w1 ⟨r0, rfl, h0, h1, hrd, ho⟩
  have hr03 := h1 (by omega)
  have hs1 := ho.size
  simp only [World.size_alloc] at hs1
  have HN1 := Lib.hid (HN0.out.only ho (by omega))
  have HR1 := Lib.hid hrd
  have HO1 := Lib.hid (HO0.out.trans ho)
  have hk1 := HK0.out.only ho hgn
  rw [← HTS.out] at hk1
  have HK1 := Lib.hid hk1
  clear h1 hrd ho hk1 HN0 HR0 HO0 HK0
  obtain ⟨rn, rfl⟩ : ∃ rn : Nat, r0 = rn := ⟨r0.toNat, by omega⟩
  go_wp2_with fail
  go_loopw [5, 6] (fun v k wr => ∃ (l : List Int) (j q : Nat), k = .int .i64 j ∧ l.length + j ≤ 3 ∧ NumRow wr (w.heap.size + 1) v l ∧ (∀ x ∈ l, -1 ≤ x ∧ x ≤ 97) ∧ RdAt wr g q ∧ (p ≤ q ∧ q ≤ p + 1 + 2 * l.length) ∧ Only g w wr ∧ Blk wr w.heap.size 26 #[.slice a n c, ts]) (fun _ k _ => (intOf k).toNat)
  case atStart => exact ⟨[], rn + 1, _, by congr 1; omega, by simp; omega, HN1.out, by simp, HR1.out, by simp, HO1.out, HK1.out⟩
  case round =>
    obtain ⟨l, j, q, rfl, hlj, hnr, hb, hrd, hq, ho, hk⟩ := hrel
    obtain ⟨av, cv, rfl, _⟩ := ElRow.at (f := Value.int .i64) (e := 3) hnr
    have HN := Lib.hid hnr
    have HB := Lib.hid hb
    have HR := Lib.hid hrd
    have HO := Lib.hid ho
    have HK := Lib.hid hk
    have hws : w.heap.size < wr.heap.size := hk.lt
    have hgr : g < wr.heap.size := hrd.lt
    obtain ⟨x0, x1, _, _⟩ := hk.two
    clear hnr hb hrd ho hk HN1 HR1 HO1 HK1
    have hcase : (0 < j ∧ 0 < n) ∨ j = 0 ∨ (0 < j ∧ n = 0) := by omega
    rcases hcase with ⟨hj, hn⟩ | hj | ⟨hj, hn⟩
    · have d1 : decide ((0 : Int) < (j : Int)) = true := decide_eq_true (by omega)
      have d2 : decide ((0 : Int) < (n : Int)) = true := decide_eq_true (by omega)
      have hnm : (n : Int) - 1 = ((n - 1 : Nat) : Int) := by omega
      have hp9 : q ≤ 990007 := by omega
      have HPICK := Lib.hid (pick_any wr.drew g q (n : Int) (HR.out.keep (fun _ _ => rfl)) (by omega) (by omega) (by omega))
      have HKD := Lib.hid (show ∀ w4, Only g wr.drew w4 → Blk w4 w.heap.size 26 #[.slice a n c, ts] from fun w4 ho => Blk.only (w := wr.drew) HK.out ho hgn)
      have HND := Lib.hid (show ∀ w4, Only g wr.drew w4 → NumRow w4 (w.heap.size + 1) (.slice av l.length cv) l from fun w4 ho => NumRow.only (w := wr.drew) HN.out ho (by omega))
      go_wp2_with fail
      go_region_law (first
        | (go_simp
           go_at_call 47
           refine HPICK.out.mono ?_
           rintro e w4 ⟨r, rfl, h0, h1, hrd, ho⟩
           obtain ⟨z0, z1, _, _⟩ := (HKD.out w4 ho).two
           have hrn := h1 (by omega)
           have hs4 : wr.heap.size ≤ w4.heap.size := ho.size
           have hN4 := HND.out w4 ho)
        | ((refine step_append_num rfl (.tmp 21) (.tmp 33) rfl (w.heap.size + 1) (Value.slice av l.length cv) l rfl (NumRow.al' hN4 _) ⟨w4.heap.size, 0, none⟩ _ rfl (news1 _ _ _ 0 _ rfl) (by omega) (by simp; omega) ?_)
           intro v7 w7 hown hgr hnew))
      all_goals
        have e1 : IntKind.i64.wrap ((n - 1 : Nat) : Int) = ((n - 1 : Nat) : Int) := IntWalk.i64_in _ ⟨by omega, by omega⟩
        have e2 : r.tdiv 2 = r / 2 := Int.tdiv_eq_ediv_of_nonneg h0
        have e3 : IntKind.i64.wrap (r / 2) = r / 2 := IntWalk.i64_in _ ⟨by omega, by omega⟩
        have e4 : IntKind.i64.wrap (((n - 1 : Nat) : Int) - r / 2) = ((n - 1 : Nat) : Int) - r / 2 := IntWalk.i64_in _ ⟨by omega, by omega⟩
        have hX : IntKind.i64.wrap (IntKind.i64.wrap ((n - 1 : Nat) : Int) - IntKind.i64.wrap (r.tdiv 2)) = ((n - 1 : Nat) : Int) - r / 2 := by rw [e2, e1, e3, e4]
        rw [hX] at hown hgr ⊢
        obtain ⟨X, hXX⟩ : ∃ X, X = ((n - 1 : Nat) : Int) - r / 2 := ⟨_, rfl⟩
        rw [← hXX] at hown hgr ⊢
        have hXb : -1 ≤ X ∧ X ≤ 97 := by omega
        have hge := own_ge hN4
        obtain ⟨a7, c7, rfl, _⟩ := ElRow.at (f := Value.int .i64) (e := 3) hown
        have hR7 := (hrd.alloc (.cells #[.int .i64 X] 3)).grown hgr (fun k hk => by have := hge k hk; omega)
        have hO7 := only_grown (((HO.out.drewN 1).trans ho).alloc (.cells #[.int .i64 X] 3)) hgr (fun k hk => by have := hge k hk; omega)
        have hK7 : Blk w7 w.heap.size 26 #[.slice a n c, ts] := ((HKD.out w4 ho).alloc (.cells #[.int .i64 X] 3)).fr' (grownBy_fr hgr) (fun hd => by have := hge _ hd; omega)
        have H7 := Lib.hid (And.intro hown (And.intro hR7 (And.intro hO7 hK7)))
        have hll : (l ++ [X]).length = l.length + 1 := by simp
        rw [hll] at H7 ⊢
        clear e1 e2 e3 e4 hX hXX hge hR7 hO7 hK7 hown hgr hnew hN4 hrd ho z0 z1 x0 x1 hll HN HR HO HK HPICK HKD HND h1
        go_wp2_with fail
        go_roundw
        case rel =>
          refine ⟨l ++ [X], j - 1, _, by congr 1; omega, by rw [List.length_append, List.length_singleton]; omega, H7.out.1, ?_, H7.out.2.1, by rw [List.length_append, List.length_singleton]; omega, H7.out.2.2.1, H7.out.2.2.2⟩
          intro y hy
          rcases List.mem_append.1 hy with hy | hy
          · exact HB.out y hy
          · rw [List.mem_singleton.1 hy]; exact hXb
        case measure => simp [intOf]; omega
    · subst hj
      have HLN := Lib.hid (show l.length ≤ 3 by omega)
      go_wp2_with fail
      refine (pick_any _ g _ 25 HR.out (by omega) (by omega) (by omega)).mono ?_
      rintro e w4 ⟨r, rfl, h0, h1, hrd, ho⟩
      have hs4 := ho.size
      have HN4 := Lib.hid (HN.out.only ho (by omega))
      have HR4 := Lib.hid hrd
      have HO4 := Lib.hid (HO.out.trans ho)
      clear h1 hrd ho HN HR HO HK x0 x1
      by_cases hr0 : r = 0
      · subst hr0
        go_wp2_with fail
        refine (num_any _ g (q + 1) w4.heap.size 3 (-1) (10) (fun i => if i = 0 then -1 else if i = 1 then 10 else 9) (HR4.out.alloc _) (by omega) (by omega) (by omega) (by omega) ?_).mono ?_
        · intro i hi
          have hi' : i = 0 ∨ i = 1 ∨ i = 2 := by omega
          rcases hi' with rfl | rfl | rfl <;> (rw [World.cell?_alloc_new]; simp)
        rintro e w6 ⟨r6, p6, rfl, hv0, hv1, hp2, hp3, hrd, ho⟩
        have hs6 := ho.size
        simp only [World.size_alloc] at hs6
        have HN6 := Lib.hid (NumRow.only (World.ownsRow.alloc HN4.out _) ho (by omega))
        have HR6 := Lib.hid hrd
        have HO6 := Lib.hid ((HO4.out.alloc _).trans ho)
        have HWS := Lib.hid (show w.heap.size + 1 ≤ w6.heap.size by omega)
        clear hrd ho HN4 HR4 HO4
        go_wp2_with (at_builtin; refine wpList_append_row _ rfl (.tmp 38) (.tmp 42) 30 rfl (w.heap.size + 1) 3 iN (.int .i64 0) 1 8 Try.underlying30 HIN.out.1 HIN.out.2.1 HIN.out.2.2.1 HIN.out.2.2.2 rfl (by decide) _ l.length (l.map (Value.int .i64)) rfl (World.ownsRow.alloc HN6.out _) ⟨w6.heap.size, 0, none⟩ 1 1 [.int .i64 r6] rfl rfl ?ar1 ?ar2 (by decide) ?ar3 ?ar4 ?ar5 ?_)
        case ar1 => exact news1 _ _ _
        case ar2 => simp [Value.oneCell']
        case ar3 => rw [HML.out]; omega
        case ar4 => omega
        case ar5 => have := HWS.out; simp; omega
        intro v7 w7 hown hgr _
        have hge := own_ge HN6.out
        have hN7 : NumRow w7 (w.heap.size + 1) v7 (l ++ [r6]) := by
          unfold NumRow
          rw [List.map_append, show (l ++ [(r6 : Int)]).length = l.length + 1 by simp]
          exact hown
        obtain ⟨a7, c7, rfl, _⟩ := ElRow.at (f := Value.int .i64) (e := 3) hN7
        have hR7 := (HR6.out.alloc (.cells #[.int .i64 r6] 3)).grown hgr (fun k hk => by have := hge k hk; omega)
        have hO7 := only_grown (HO6.out.alloc (.cells #[.int .i64 r6] 3)) hgr (fun k hk => by have := hge k hk; omega)
        have H7 := Lib.hid (And.intro hN7 (And.intro hR7 hO7))
        clear hown hgr hge hN7 hR7 hO7
        go_wp2_with fail
        go_ret
        refine ⟨l ++ [r6], _, _, rfl, ownsRow_low H7.out.1 (by omega), by simp; omega, ?_, by omega, by omega, H7.out.2.1, H7.out.2.2⟩
        intro y hy
        rcases List.mem_append.1 hy with hy | hy
        · exact HB.out y hy
        · rw [List.mem_singleton.1 hy]; omega
      · have hne : (r == 0) = false := by simpa using hr0
        go_wp2_with fail
        go_ret
        exact ⟨l, _, _, rfl, ownsRow_low HN4.out (by omega), by omega, HB.out, by omega, by omega, HR4.out, HO4.out⟩
    · subst hn
      have d1 : decide ((0 : Int) < (j : Int)) = true := decide_eq_true (by omega)
      have HLN := Lib.hid (show l.length ≤ 3 by omega)
      go_wp2_with fail
      refine (pick_any _ g _ 25 HR.out (by omega) (by omega) (by omega)).mono ?_
      rintro e w4 ⟨r, rfl, h0, h1, hrd, ho⟩
      have hs4 := ho.size
      have HN4 := Lib.hid (HN.out.only ho (by omega))
      have HR4 := Lib.hid hrd
      have HO4 := Lib.hid (HO.out.trans ho)
      clear h1 hrd ho HN HR HO HK x0 x1
      by_cases hr0 : r = 0
      · subst hr0
        go_wp2_with fail
        refine (num_any _ g (q + 1) w4.heap.size 3 (-1) (10) (fun i => if i = 0 then -1 else if i = 1 then 10 else 9) (HR4.out.alloc _) (by omega) (by omega) (by omega) (by omega) ?_).mono ?_
        · intro i hi
          have hi' : i = 0 ∨ i = 1 ∨ i = 2 := by omega
          rcases hi' with rfl | rfl | rfl <;> (rw [World.cell?_alloc_new]; simp)
        rintro e w6 ⟨r6, p6, rfl, hv0, hv1, hp2, hp3, hrd, ho⟩
        have hs6 := ho.size
        simp only [World.size_alloc] at hs6
        have HN6 := Lib.hid (NumRow.only (World.ownsRow.alloc HN4.out _) ho (by omega))
        have HR6 := Lib.hid hrd
        have HO6 := Lib.hid ((HO4.out.alloc _).trans ho)
        have HWS := Lib.hid (show w.heap.size + 1 ≤ w6.heap.size by omega)
        clear hrd ho HN4 HR4 HO4
        go_wp2_with (at_builtin; refine wpList_append_row _ rfl (.tmp 38) (.tmp 42) 30 rfl (w.heap.size + 1) 3 iN (.int .i64 0) 1 8 Try.underlying30 HIN.out.1 HIN.out.2.1 HIN.out.2.2.1 HIN.out.2.2.2 rfl (by decide) _ l.length (l.map (Value.int .i64)) rfl (World.ownsRow.alloc HN6.out _) ⟨w6.heap.size, 0, none⟩ 1 1 [.int .i64 r6] rfl rfl ?ar1 ?ar2 (by decide) ?ar3 ?ar4 ?ar5 ?_)
        case ar1 => exact news1 _ _ _
        case ar2 => simp [Value.oneCell']
        case ar3 => rw [HML.out]; omega
        case ar4 => omega
        case ar5 => have := HWS.out; simp; omega
        intro v7 w7 hown hgr _
        have hge := own_ge HN6.out
        have hN7 : NumRow w7 (w.heap.size + 1) v7 (l ++ [r6]) := by
          unfold NumRow
          rw [List.map_append, show (l ++ [(r6 : Int)]).length = l.length + 1 by simp]
          exact hown
        obtain ⟨a7, c7, rfl, _⟩ := ElRow.at (f := Value.int .i64) (e := 3) hN7
        have hR7 := (HR6.out.alloc (.cells #[.int .i64 r6] 3)).grown hgr (fun k hk => by have := hge k hk; omega)
        have hO7 := only_grown (HO6.out.alloc (.cells #[.int .i64 r6] 3)) hgr (fun k hk => by have := hge k hk; omega)
        have H7 := Lib.hid (And.intro hN7 (And.intro hR7 hO7))
        clear hown hgr hge hN7 hR7 hO7
        go_wp2_with fail
        go_ret
        refine ⟨l ++ [r6], _, _, rfl, ownsRow_low H7.out.1 (by omega), by simp; omega, ?_, by omega, by omega, H7.out.2.1, H7.out.2.2⟩
        intro y hy
        rcases List.mem_append.1 hy with hy | hy
        · exact HB.out y hy
        · rw [List.mem_singleton.1 hy]; omega
      · have hne : (r == 0) = false := by simpa using hr0
        go_wp2_with fail
        go_ret
        exact ⟨l, _, _, rfl, ownsRow_low HN4.out (by omega), by omega, HB.out, by omega, by omega, HR4.out, HO4.out⟩
end Go.Proofs.Ytklmpagpkeffjaa

/- DrawOrderSuspend and its like -/
namespace Go.Proofs.Ytklmpagpkeffjaa
open Go.RowKit

/-- A sheet, values and keys were drawn off a code. -/
def ShIKDr (w : World) (e : Ending) (w' : World) : Prop := ∃ (s : Sh) (a : Option Addr) (c : Nat) (a' : Option Addr) (c' : Nat) (l : List Int) (ai : Option Addr) (ci : Nat) (ks : List Int) (ak : Option Addr) (ck : Nat), e = .returned (.tuple #[.agg #[.slice a s.m.length c, .slice a' s.t.length c'], .slice ai l.length ci, .slice ak ks.length ck]) ∧
  ShAt w' (fun _ => True) s a c a' c' ∧ IntsAt w' (fun _ => True) l ai ci ∧ IntsAt w' (fun _ => True) ks ak ck ∧ s.t.length = s.m.length ∧ s.m.length ≤ 8 ∧ nodesL s.t ≤ 120 ∧ l.length ≤ 9 ∧ ks.length ≤ 9 ∧ Below w.heap.size w w'
set_option maxHeartbeats 2000000 in
theorem drawRestart_any (w : World) (a : Option Addr) (n c : Nat) (h : CodeAt w a n c) : Calls Try.prog 26 #[.slice a n c] w (ShIKDr w) := by
  have HC := Lib.hid (h.alloc (.cells #[.slice none 0 0, .slice none 0 0] 26))
  clear h
  go_enter Try.func26, Try.ntmps26
  go_wp2_with fail
  refine (open_any _ a n c HC.out).mono ?_
  rintro e w1 ⟨rfl, hrd, hb⟩
  have hsz1 := hb.size
  simp only [World.size_alloc] at hsz1 hrd hb
  have HK1 := Lib.hid ((Blk.new w 26 #[.slice none 0 0, .slice none 0 0]).below hb (by omega))
  have HE1 := Lib.hid (And.intro hrd (below_of_box hb))
  have hlt1 : w.heap.size + 1 < w1.heap.size := hrd.lt
  clear hrd hb HC
  go_wp2_with fail
  refine (sheetD_any _ (w.heap.size + 1) 0 ?_ (by omega)).mono ?_
  · exact HE1.out.1
  rintro e w2 ⟨s, v, a', c', q, rfl, hsh, htl, hml, hnl, _, hq2, hrd, ho⟩
  obtain ⟨av, cv, rfl, _⟩ := ElRow.at hsh.row
  have hsz2 := ho.size
  have HK2 := Lib.hid ((HK1.out.only ho (by omega)).alloc (.cells #[.slice av s.m.length cv, .slice a' s.t.length c'] 26))
  have HT2 := Lib.hid (Blk.new w2 26 #[.slice av s.m.length cv, .slice a' s.t.length c'])
  have hB2 : Below w.heap.size w w2 := HE1.out.2.trans ⟨ho.os, ho.tape, ho.output, ho.size, fun k hk => ho.block k (by omega) (by intro e; injection e; omega)⟩
  have HX2 := Lib.hid (hB2.alloc (by omega) (.cells #[.slice av s.m.length cv, .slice a' s.t.length c'] 26))
  have HS2 := Lib.hid (hsh.alloc (.cells #[.slice av s.m.length cv, .slice a' s.t.length c'] 26))
  have HR2 := Lib.hid (hrd.alloc (.cells #[.slice av s.m.length cv, .slice a' s.t.length c'] 26))
  have HTL := Lib.hid htl
  clear hrd ho hB2 HK1 HE1 hsh htl
  go_wp2_with fail
  refine (inputs_any _ (w.heap.size + 1) q av s.m.length cv a' s.t.length c' HR2.out (by omega) hml).mono ?_
  rintro e w3 ⟨l, v, q3, rfl, hn, hl, hlb, _, _, hrd, ho⟩
  have hsz3 := ho.size
  simp only [World.size_alloc] at hsz3 hn
  obtain ⟨ai, ci, rfl, _⟩ := NumRow.at (show NumRow w3 _ v l from hn) (by intro x hx; have := hlb x hx; unfold i64ok; omega)
  have HK3 := Lib.hid (HK2.out.only ho (by omega))
  have HT3 := Lib.hid (HT2.out.only ho (by omega))
  have HX3 := Lib.hid (show Below w.heap.size w w3 from HX2.out.trans ⟨ho.os, ho.tape, ho.output, ho.size, fun k hk => ho.block k (by simp; omega) (by intro e; injection e; omega)⟩)
  have HS3 := Lib.hid (HS2.out.only ho (by omega))
  have HN3 := Lib.hid hn
  have HR3 := Lib.hid hrd
  have HLB := Lib.hid hlb
  clear hn hlb hrd ho HK2 HT2 HX2 HS2 HR2
  obtain ⟨u0, u1, _, _⟩ := HT3.out.two
  go_wp2_with fail
  refine (keysD_any _ (w.heap.size + 1) q3 av s.m.length cv a' s.t.length c' HR3.out (by omega) hml).mono ?_
  rintro e w4 ⟨ks, v, q4, rfl, hn4, hkl, hkb, _, _, hrd, ho⟩
  have hsz4 := ho.size
  obtain ⟨ak, ck, rfl, _⟩ := NumRow.at (show NumRow w4 _ v ks from hn4) (by intro x hx; have := hkb x hx; unfold i64ok; omega)
  have HK4 := Lib.hid (HK3.out.only ho (by omega))
  have HT4 := Lib.hid (HT3.out.only ho (by omega))
  have HX4 := Lib.hid (show Below w.heap.size w w4 from HX3.out.trans ⟨ho.os, ho.tape, ho.output, ho.size, fun k hk => ho.block k (by omega) (by intro e; injection e; omega)⟩)
  have HS4 := Lib.hid (HS3.out.only ho (by omega))
  have HN4 := Lib.hid (NumRow.only HN3.out ho (by omega))
  have HQ4 := Lib.hid hn4
  have HKB := Lib.hid hkb
  clear hn4 hkb hrd ho u0 u1 HK3 HT3 HX3 HS3 HN3 HR3
  obtain ⟨x0, x1, f0, f1⟩ := HK4.out.two
  obtain ⟨y0, y1, _, _⟩ := HT4.out.two
  have hz : w.heap.size < w4.heap.size := by omega
  go_wp2_with fail
  have hb5 := (HK4.out.set_ 0 (.slice av s.m.length cv)).set_ 1 (.slice a' s.t.length c')
  obtain ⟨z0, z1, _, _⟩ := (show Blk _ w.heap.size 26 #[.slice av s.m.length cv, .slice a' s.t.length c'] from hb5).two
  refine bodyPost_ret (v := .tuple #[.agg #[.slice av s.m.length cv, .slice a' s.t.length c'], .slice ai l.length ci, .slice ak ks.length ck]) (by simp only [results, Try.results26]; simp [go_sem, z0, z1]) rfl ?_
  have hne : (Value.slice ai l.length ci).ownBlock ≠ some w.heap.size := fun e => by have := own_ge HN4.out _ e; omega
  have h1 := (HS4.out.set_ ⟨w.heap.size, 0, none⟩ (.slice av s.m.length cv) (.inl (by simp; omega))).set_ ⟨w.heap.size, 1, none⟩ (.slice a' s.t.length c') (.inl (by simp; omega))
  obtain ⟨a6, c6, e6, h2⟩ := h1.at
  simp only [Value.slice.injEq, true_and] at e6
  obtain ⟨rfl, rfl⟩ := e6
  have h3 := ownsRow_setCell_other (ownsRow_setCell_other HN4.out (a := ⟨w.heap.size, 0, none⟩) hne (.slice av s.m.length cv)) (a := ⟨w.heap.size, 1, none⟩) hne (.slice a' s.t.length c')
  obtain ⟨a7, c7, e7, h4⟩ := NumRow.at (show NumRow _ _ _ l from h3) (by intro x hx; have := HLB.out x hx; unfold i64ok; omega)
  simp only [Value.slice.injEq, true_and] at e7
  obtain ⟨rfl, rfl⟩ := e7
  have hneq : (Value.slice ak ks.length ck).ownBlock ≠ some w.heap.size := fun e => by have := own_ge HQ4.out _ e; omega
  have h5 := ownsRow_setCell_other (ownsRow_setCell_other HQ4.out (a := ⟨w.heap.size, 0, none⟩) hneq (.slice av s.m.length cv)) (a := ⟨w.heap.size, 1, none⟩) hneq (.slice a' s.t.length c')
  obtain ⟨a8, c8, e8, h6⟩ := NumRow.at (show NumRow _ _ _ ks from h5) (by intro x hx; have := HKB.out x hx; unfold i64ok; omega)
  simp only [Value.slice.injEq, true_and] at e8
  obtain ⟨rfl, rfl⟩ := e8
  exact ⟨s, av, cv, a', c', l, ai, ci, ks, ak, ck, rfl, h2.keep (fun _ _ => trivial) (fun _ _ _ => rfl), h4.keep (fun _ _ => trivial) (fun _ _ _ => rfl), h6.keep (fun _ _ => trivial) (fun _ _ _ => rfl), HTL.out, hml, hnl, hl, hkl, (HX4.out.setCell (Nat.le_refl _) _).setCell (Nat.le_refl _) _⟩
set_option maxHeartbeats 2000000 in
theorem drawSuspend_any (w : World) (a : Option Addr) (n c : Nat) (h : CodeAt w a n c) : Calls Try.prog 21 #[.slice a n c] w (ShIKDr w) := by
  have HC := Lib.hid (h.alloc (.cells #[.slice none 0 0, .slice none 0 0] 26))
  clear h
  go_enter Try.func21, Try.ntmps21
  go_wp2_with fail
  refine (open_any _ a n c HC.out).mono ?_
  rintro e w1 ⟨rfl, hrd, hb⟩
  have hsz1 := hb.size
  simp only [World.size_alloc] at hsz1 hrd hb
  have HK1 := Lib.hid ((Blk.new w 26 #[.slice none 0 0, .slice none 0 0]).below hb (by omega))
  have HE1 := Lib.hid (And.intro hrd (below_of_box hb))
  have hlt1 : w.heap.size + 1 < w1.heap.size := hrd.lt
  clear hrd hb HC
  go_wp2_with fail
  refine (sheetD_any _ (w.heap.size + 1) 0 ?_ (by omega)).mono ?_
  · exact HE1.out.1
  rintro e w2 ⟨s, v, a', c', q, rfl, hsh, htl, hml, hnl, _, hq2, hrd, ho⟩
  obtain ⟨av, cv, rfl, _⟩ := ElRow.at hsh.row
  have hsz2 := ho.size
  have HK2 := Lib.hid ((HK1.out.only ho (by omega)).alloc (.cells #[.slice av s.m.length cv, .slice a' s.t.length c'] 26))
  have HT2 := Lib.hid (Blk.new w2 26 #[.slice av s.m.length cv, .slice a' s.t.length c'])
  have hB2 : Below w.heap.size w w2 := HE1.out.2.trans ⟨ho.os, ho.tape, ho.output, ho.size, fun k hk => ho.block k (by omega) (by intro e; injection e; omega)⟩
  have HX2 := Lib.hid (hB2.alloc (by omega) (.cells #[.slice av s.m.length cv, .slice a' s.t.length c'] 26))
  have HS2 := Lib.hid (hsh.alloc (.cells #[.slice av s.m.length cv, .slice a' s.t.length c'] 26))
  have HR2 := Lib.hid (hrd.alloc (.cells #[.slice av s.m.length cv, .slice a' s.t.length c'] 26))
  have HTL := Lib.hid htl
  clear hrd ho hB2 HK1 HE1 hsh htl
  go_wp2_with fail
  refine (inputs_any _ (w.heap.size + 1) q av s.m.length cv a' s.t.length c' HR2.out (by omega) hml).mono ?_
  rintro e w3 ⟨l, v, q3, rfl, hn, hl, hlb, _, _, hrd, ho⟩
  have hsz3 := ho.size
  simp only [World.size_alloc] at hsz3 hn
  obtain ⟨ai, ci, rfl, _⟩ := NumRow.at (show NumRow w3 _ v l from hn) (by intro x hx; have := hlb x hx; unfold i64ok; omega)
  have HK3 := Lib.hid (HK2.out.only ho (by omega))
  have HT3 := Lib.hid (HT2.out.only ho (by omega))
  have HX3 := Lib.hid (show Below w.heap.size w w3 from HX2.out.trans ⟨ho.os, ho.tape, ho.output, ho.size, fun k hk => ho.block k (by simp; omega) (by intro e; injection e; omega)⟩)
  have HS3 := Lib.hid (HS2.out.only ho (by omega))
  have HN3 := Lib.hid hn
  have HR3 := Lib.hid hrd
  have HLB := Lib.hid hlb
  clear hn hlb hrd ho HK2 HT2 HX2 HS2 HR2
  obtain ⟨u0, u1, _, _⟩ := HT3.out.two
  go_wp2_with fail
  refine (keysD_any _ (w.heap.size + 1) q3 av s.m.length cv a' s.t.length c' HR3.out (by omega) hml).mono ?_
  rintro e w4 ⟨ks, v, q4, rfl, hn4, hkl, hkb, _, _, hrd, ho⟩
  have hsz4 := ho.size
  obtain ⟨ak, ck, rfl, _⟩ := NumRow.at (show NumRow w4 _ v ks from hn4) (by intro x hx; have := hkb x hx; unfold i64ok; omega)
  have HK4 := Lib.hid (HK3.out.only ho (by omega))
  have HT4 := Lib.hid (HT3.out.only ho (by omega))
  have HX4 := Lib.hid (show Below w.heap.size w w4 from HX3.out.trans ⟨ho.os, ho.tape, ho.output, ho.size, fun k hk => ho.block k (by omega) (by intro e; injection e; omega)⟩)
  have HS4 := Lib.hid (HS3.out.only ho (by omega))
  have HN4 := Lib.hid (NumRow.only HN3.out ho (by omega))
  have HQ4 := Lib.hid hn4
  have HKB := Lib.hid hkb
  clear hn4 hkb hrd ho u0 u1 HK3 HT3 HX3 HS3 HN3 HR3
  obtain ⟨x0, x1, f0, f1⟩ := HK4.out.two
  obtain ⟨y0, y1, _, _⟩ := HT4.out.two
  have hz : w.heap.size < w4.heap.size := by omega
  go_wp2_with fail
  have hb5 := (HK4.out.set_ 0 (.slice av s.m.length cv)).set_ 1 (.slice a' s.t.length c')
  obtain ⟨z0, z1, _, _⟩ := (show Blk _ w.heap.size 26 #[.slice av s.m.length cv, .slice a' s.t.length c'] from hb5).two
  refine bodyPost_ret (v := .tuple #[.agg #[.slice av s.m.length cv, .slice a' s.t.length c'], .slice ai l.length ci, .slice ak ks.length ck]) (by simp only [results, Try.results21]; simp [go_sem, z0, z1]) rfl ?_
  have hne : (Value.slice ai l.length ci).ownBlock ≠ some w.heap.size := fun e => by have := own_ge HN4.out _ e; omega
  have h1 := (HS4.out.set_ ⟨w.heap.size, 0, none⟩ (.slice av s.m.length cv) (.inl (by simp; omega))).set_ ⟨w.heap.size, 1, none⟩ (.slice a' s.t.length c') (.inl (by simp; omega))
  obtain ⟨a6, c6, e6, h2⟩ := h1.at
  simp only [Value.slice.injEq, true_and] at e6
  obtain ⟨rfl, rfl⟩ := e6
  have h3 := ownsRow_setCell_other (ownsRow_setCell_other HN4.out (a := ⟨w.heap.size, 0, none⟩) hne (.slice av s.m.length cv)) (a := ⟨w.heap.size, 1, none⟩) hne (.slice a' s.t.length c')
  obtain ⟨a7, c7, e7, h4⟩ := NumRow.at (show NumRow _ _ _ l from h3) (by intro x hx; have := HLB.out x hx; unfold i64ok; omega)
  simp only [Value.slice.injEq, true_and] at e7
  obtain ⟨rfl, rfl⟩ := e7
  have hneq : (Value.slice ak ks.length ck).ownBlock ≠ some w.heap.size := fun e => by have := own_ge HQ4.out _ e; omega
  have h5 := ownsRow_setCell_other (ownsRow_setCell_other HQ4.out (a := ⟨w.heap.size, 0, none⟩) hneq (.slice av s.m.length cv)) (a := ⟨w.heap.size, 1, none⟩) hneq (.slice a' s.t.length c')
  obtain ⟨a8, c8, e8, h6⟩ := NumRow.at (show NumRow _ _ _ ks from h5) (by intro x hx; have := HKB.out x hx; unfold i64ok; omega)
  simp only [Value.slice.injEq, true_and] at e8
  obtain ⟨rfl, rfl⟩ := e8
  exact ⟨s, av, cv, a', c', l, ai, ci, ks, ak, ck, rfl, h2.keep (fun _ _ => trivial) (fun _ _ _ => rfl), h4.keep (fun _ _ => trivial) (fun _ _ _ => rfl), h6.keep (fun _ _ => trivial) (fun _ _ _ => rfl), HTL.out, hml, hnl, hl, hkl, (HX4.out.setCell (Nat.le_refl _) _).setCell (Nat.le_refl _) _⟩
end Go.Proofs.Ytklmpagpkeffjaa

/- spec.l2Has, spec.l2Uses, spec.TaskUses, spec.TaskSame -/
namespace Go.Proofs.Ytklmpagpkeffjaa
open Go.RowKit

theorem mem_take_succ {l : List Int} {k : Nat} (h : k < l.length) (n : Int) : n ∈ l.take (k + 1) ↔ n ∈ l.take k ∨ n = l[k] := by
  rw [List.take_succ_eq_append_getElem h, List.mem_append, List.mem_singleton]

/-- spec.l2Has -/
theorem has_any (w : World) (S : Nat → Prop) (l : List Int) (a : Option Addr) (c : Nat) (n : Int) (h : IntsAt w S l a c) :
    Calls Try.prog 59 #[.slice a l.length c, .int .i64 n] w fun e w' => e = .returned (.bool (decide (n ∈ l))) ∧ w = w' := by
  have hlen : l.length ≤ 9223372036854775807 := by have := h.1; have := h.2.1; omega
  have H := Lib.hid h
  obtain ⟨r, hr⟩ : ∃ r, r = decide (n ∈ l) := ⟨_, rfl⟩
  have HR := Lib.hid hr
  rw [← hr]
  clear h hr
  go_enter Try.func59, Try.ntmps59
  go_wp2_with fail
  go_loop [5] (fun i => ∃ k : Nat, k ≤ l.length ∧ i = .int .i64 k ∧ ¬ n ∈ l.take k) (fun i => l.length - (intOf i).toNat)
  case atStart => exact ⟨0, by omega, rfl, by simp⟩
  case round =>
    obtain ⟨k, hk, rfl, hq⟩ := hrel
    have HQ := Lib.hid hq
    clear hq
    by_cases hlt : k < l.length
    · obtain ⟨b, o, rfl, hbl, _, hc⟩ := H.out.get (Below.refl _ _) hlt
      have HM := Lib.hid (mem_take_succ hlt n)
      have HE := Lib.hid (List.getElem_mem hlt)
      obtain ⟨v, hv⟩ : ∃ v, v = l[k] := ⟨_, rfl⟩
      rw [← hv] at hc
      have HVV := Lib.hid hv
      clear hv
      by_cases hvn : v = n
      · have hd : (v == n) = true := by simpa using hvn
        have hrt : r = true := by rw [HR.out, decide_eq_true_eq, ← hvn, HVV.out]; exact HE.out
        have HRT := Lib.hid hrt
        clear hrt hvn
        go_wp2_with fail
        go_ret
        exact ⟨ret_bool HRT.out.symm, rfl⟩
      · have hd : (v == n) = false := by simpa using hvn
        have HVN := Lib.hid hvn
        clear hvn
        go_wp2_with fail
        go_round
        case rel => exact ⟨k + 1, by omega, by go_num, fun h => by
          rcases HM.out.1 h with h | h
          · exact HQ.out h
          · exact HVN.out (by rw [HVV.out, h])⟩
        case measure => simp [intOf]; omega
    · have hrf : r = false := by
        have := HQ.out
        rw [List.take_of_length_le (by omega)] at this
        rw [HR.out]; exact decide_eq_false this
      have HRF := Lib.hid hrf
      clear hrf
      go_wp2_with fail
      go_ret
      exact ⟨ret_bool HRF.out.symm, rfl⟩

/-- Each key once, in the order in which they come first. -/
def ustep (acc : List Int) (k : Int) : List Int := if k ∈ acc then acc else acc ++ [k]
def usesL (ks : List Int) : List Int := ks.foldl ustep []
theorem usesL_snoc {ks : List Int} {k : Nat} (h : k < ks.length) : usesL (ks.take (k + 1)) = ustep (usesL (ks.take k)) ks[k] := by
  unfold usesL
  rw [List.take_succ_eq_append_getElem h, List.foldl_append]
  rfl
theorem ustep_mem {acc : List Int} {k x : Int} : x ∈ ustep acc k ↔ x ∈ acc ∨ x = k := by
  unfold ustep
  split
  · rename_i h
    constructor
    · exact .inl
    · rintro (h' | rfl)
      · exact h'
      · exact h
  · simp
theorem foldl_ustep_mem : ∀ (ks acc : List Int) (x : Int), x ∈ ks.foldl ustep acc ↔ x ∈ acc ∨ x ∈ ks
  | [], acc, x => by simp
  | k :: r, acc, x => by
    rw [List.foldl_cons, foldl_ustep_mem r, ustep_mem, List.mem_cons]
    constructor
    · rintro ((h | h) | h)
      · exact .inl h
      · exact .inr (.inl h)
      · exact .inr (.inr h)
    · rintro (h | h | h)
      · exact .inl (.inl h)
      · exact .inl (.inr h)
      · exact .inr h
theorem usesL_mem {ks : List Int} {x : Int} : x ∈ usesL ks ↔ x ∈ ks := by unfold usesL; rw [foldl_ustep_mem]; simp
theorem foldl_ustep_len : ∀ (ks acc : List Int), (ks.foldl ustep acc).length ≤ acc.length + ks.length
  | [], acc => by simp
  | k :: r, acc => by
    have := foldl_ustep_len r (ustep acc k)
    have h2 : (ustep acc k).length ≤ acc.length + 1 := by unfold ustep; split <;> simp
    simp only [List.foldl_cons, List.length_cons]
    omega
theorem usesL_len (ks : List Int) : (usesL ks).length ≤ ks.length := by have := foldl_ustep_len ks []; simpa [usesL] using this

def UsesPost (ks : List Int) (w : World) (e : Ending) (w' : World) : Prop := ∃ v, e = .returned v ∧ NumRow w' w.heap.size v (usesL ks) ∧ Below w.heap.size w w'

set_option maxHeartbeats 2000000 in
theorem uses_any (vs : Int → Int) (w : World) (S : Nat → Prop) (ks : List Int) (a : Option Addr) (c : Nat) (h : FetAt vs w S ks a c) (hk : ∀ k ∈ ks, 0 ≤ k ∧ k ≤ 9) (hl : ks.length ≤ 100) :
    Calls Try.prog 80 #[.slice a ks.length c] w (UsesPost ks w) := by
  obtain ⟨iN, ni, nz0, nz1, nz2⟩ := info_parts infoInt
  have HIN := Lib.hid (And.intro ni (And.intro nz0 (And.intro nz1 nz2)))
  have hml : maxLen = 9223372036854775807 := rfl
  have HML := Lib.hid hml
  have H := Lib.hid h
  have HKB := Lib.hid hk
  have HN0 := Lib.hid (rowN_new w)
  clear h hk ni nz0 nz1 nz2 hml
  go_enter Try.func80, Try.ntmps80
  go_wp2_with fail
  go_loopw [3, 4] (fun v i wr => ∃ k : Nat, k ≤ ks.length ∧ i = .int .i64 k ∧ NumRow wr w.heap.size v (usesL (ks.take k)) ∧ Below w.heap.size w wr) (fun _ i _ => ks.length - (intOf i).toNat)
  case atStart => exact ⟨0, by omega, rfl, HN0.out, (Below.refl _ _).alloc (Nat.le_refl _) _⟩
  case round =>
    obtain ⟨k, hk, rfl, hn, hb⟩ := hrel
    have HB := Lib.hid hb
    have HN := Lib.hid hn
    clear hb
    by_cases hlt : k < ks.length
    · obtain ⟨b, o, rfl, hbl, _, e0, _⟩ := H.out.get HB.out hlt
      obtain ⟨acc, hacc⟩ : ∃ acc, acc = usesL (ks.take k) := ⟨_, rfl⟩
      have hal : acc.length ≤ 100 := by rw [hacc]; have := usesL_len (ks.take k); simp at this; omega
      obtain ⟨a1, c1, hv1, hia⟩ := hn.at (fun x hx => by
        have := HKB.out x (List.mem_of_mem_take (usesL_mem.1 hx))
        unfold i64ok; omega)
      rw [← hacc] at hv1 hia HN
      subst hv1
      have HIA := Lib.hid hia
      have HSN := Lib.hid (show usesL (ks.take (k + 1)) = ustep acc ks[k] by rw [usesL_snoc hlt, hacc])
      obtain ⟨key, hkey⟩ : ∃ key, key = ks[k] := ⟨_, rfl⟩
      rw [← hkey] at e0 HSN
      clear hacc hn hia hkey
      by_cases hin : key ∈ acc
      · have hu : usesL (ks.take (k + 1)) = acc := by rw [HSN.out]; unfold ustep; rw [if_pos hin]
        have HU := Lib.hid hu
        have hd : decide (key ∈ acc) = true := decide_eq_true hin
        have HD := Lib.hid hd
        clear hu hd hin
        go_wp2_with fail
        refine (has_any _ _ acc a1 c1 key HIA.out).mono ?_
        rintro e w' ⟨rfl, rfl⟩
        rw [HD.out]
        go_wp2_with fail
        go_roundw
        case rel => exact ⟨k + 1, by omega, by go_num, by rw [HU.out]; exact HN.out, HB.out⟩
        case measure => simp [intOf]; omega
      · have hu : usesL (ks.take (k + 1)) = acc ++ [key] := by rw [HSN.out]; unfold ustep; rw [if_neg hin]
        have HU := Lib.hid hu
        have hd : decide (key ∈ acc) = false := decide_eq_false hin
        have HD := Lib.hid hd
        have hws := HB.out.size
        clear hu hd hin
        go_wp2_with fail
        refine (has_any _ _ acc a1 c1 key HIA.out).mono ?_
        rintro e w' ⟨rfl, rfl⟩
        rw [HD.out]
        go_wp2_with (at_builtin; refine wpList_append_own _ rfl (.tmp 20) (.tmp 26) 30 rfl w.heap.size 3 iN (.int .i64 0) 1 8 Try.underlying30 HIN.out.1 HIN.out.2.1 HIN.out.2.2.1 HIN.out.2.2.2 rfl (by decide) _ acc.length (acc.map (Value.int .i64)) rfl (HN.out.alloc _) ⟨wr.heap.size, 0, none⟩ 1 1 [.int .i64 key] rfl rfl ?d1 ?d2 ?d3 ?d4 ?d5 ?_)
        case d1 => exact news1 _ _ _
        case d2 => simp [Value.oneCell']
        case d3 => rw [HML.out]; omega
        case d4 => omega
        case d5 => simp; omega
        intro v2 w2 hown hgr _
        have hN2 : NumRow w2 w.heap.size v2 (acc ++ [key]) := by
          unfold NumRow
          rw [List.map_append, show (acc ++ [key]).length = acc.length + 1 by simp]
          exact hown
        have hB2 : Below w.heap.size w w2 := (HB.out.alloc (by omega) _).trans (below_grown hgr (by simp; omega) (own_ge HN.out))
        have H2 := Lib.hid (And.intro hN2 hB2)
        clear hown hgr hN2 hB2
        go_wp2_with fail
        go_roundw
        case rel => exact ⟨k + 1, by omega, by go_num, by rw [HU.out]; exact H2.out.1, H2.out.2⟩
        case measure => simp [intOf]; omega
    · have hq : ks.take k = ks := List.take_of_length_le (by omega)
      rw [hq] at HN
      clear hq hn
      go_wp2_with fail
      go_ret
      exact ⟨_, rfl, HN.out, HB.out⟩

/-- What TaskUses leaves. -/
def UsPost (t : T) (lv : List Int) (w : World) (e : Ending) (w' : World) : Prop :=
  Below w.heap.size w w' ∧ ∃ v, e = .returned (.tuple #[v, .bool (t.ok && vok lv)]) ∧ NumRow w' w.heap.size v (if (t.ok && vok lv) = true then usesL (t.kys (vf lv)) else [])

theorem kys_ok {t : T} {lv : List Int} (h : (t.ok && vok lv) = true) : (∀ k ∈ t.kys (vf lv), 0 ≤ k ∧ k ≤ 9) ∧ (t.kys (vf lv)).length ≤ 15 := by
  simp only [Bool.and_eq_true] at h
  have hfn : t.fit = true ∧ t.nodes ≤ 15 := by simpa [T.ok] using h.1
  have := T.kys_bd (vf lv) t hfn.1
  exact ⟨this.1, by omega⟩

theorem agree_uses (x y : List Int) (ks : List Int) : agree x y (usesL ks) = agree x y ks := by
  unfold agree
  rw [Bool.eq_iff_iff, List.all_eq_true, List.all_eq_true]
  exact ⟨fun h k hk => h k (usesL_mem.2 hk), fun h k hk => h k (usesL_mem.1 hk)⟩
end Go.Proofs.Ytklmpagpkeffjaa

/- what can be done is done, and no key is tried more often than it has keys to wait for, and once more: plain words, no program -/
namespace Go.Proofs.Ytklmpagpkeffjaa

theorem filt_le {p p' : Int → Bool} (hp : ∀ x, p' x = true → p x = true) : ∀ l : List Int, (l.filter p').length ≤ (l.filter p).length
  | [] => by simp
  | y :: r => by
    have ih := filt_le hp r
    rw [List.filter_cons, List.filter_cons]
    cases hy : p' y
    · cases p y <;> simp <;> omega
    · rw [hp y hy]; simp; exact ih
theorem filt_lt {p p' : Int → Bool} {j : Int} : ∀ {l : List Int}, (∀ x, p' x = true → p x = true) → j ∈ l → p j = true → p' j = false → (l.filter p').length < (l.filter p).length
  | [], _, h, _, _ => by cases h
  | x :: r, hp, h, h1, h2 => by
    rw [List.filter_cons, List.filter_cons]
    by_cases hx : x = j
    · subst hx
      rw [h1, h2]
      have := filt_le hp r
      simp
      omega
    · have hr : j ∈ r := by
        rcases List.mem_cons.1 h with h | h
        · exact absurd h.symm hx
        · exact h
      have := filt_lt (l := r) hp hr h1 h2
      cases hy : p' x
      · cases p x <;> simp <;> omega
      · rw [hp x hy]; simp; exact this

/-- So often a key may still be tried. -/
def cnt (ch : Int → List Int) (d : Int → Bool) (x : Int) : Nat := if d x = true then 0 else ((usesL (ch x)).filter (fun y => !d y)).length + 1

section
variable {em : Int → Option Int → List Int} {ch : Int → List Int} {d d' : Int → Bool} {q o : List Int} {m : Nat}

theorem cnt_mono (h : ∀ x, d x = true → d' x = true) (x : Int) : cnt ch d' x ≤ cnt ch d x := by
  unfold cnt
  cases hx : d x
  · have e : (if (false = true) then 0 else ((usesL (ch x)).filter (fun y => !d y)).length + 1) = ((usesL (ch x)).filter (fun y => !d y)).length + 1 := if_neg (by decide)
    rw [e]
    split
    · omega
    · have := filt_le (p := fun y => !d y) (p' := fun y => !d' y) (fun y hy => by
        cases hd : d y
        · rfl
        · rw [h y hd] at hy; cases hy) (usesL (ch x))
      omega
  · rw [h x hx]; simp

variable {n : Nat} {d0 ok : Int → Bool} {rk : Int → Nat}

/-- What visiting a key that can be done gives. -/
structure Vis (em : Int → Option Int → List Int) (ch : Int → List Int) (ok : Int → Bool) (rk : Int → Nat) (d : Int → Bool) (k : Int) (X : List Int) (d' : Int → Bool) : Prop where
  mono : ∀ x, d x = true → d' x = true
  hi : ∀ x, d' x = true → ok x = true
  done : d' k = true
  vis : Visit em ch d k X d'
  rank : ∀ x ∈ X, rk x ≤ rk k
  few : ∀ x, X.count x + cnt ch d' x ≤ cnt ch d x

theorem Vis.here {k : Int} (hd : d k = true) (hhi : ∀ x, d x = true → ok x = true) : Vis em ch ok rk d k [] d :=
  ⟨fun _ h => h, hhi, hd, Visit.done hd, by simp, by simp⟩
theorem Vis.fin {k : Int} (hem : ∀ k y x, (em k y).count x ≤ if x = k then 1 else 0) (hd : d k = false) (hn : nxt ch d k = none) (hk : ok k = true) (hhi : ∀ x, d x = true → ok x = true) : Vis em ch ok rk d k (em k none) (upd d k) where
  mono x hx := by unfold upd; rw [hx]; rfl
  hi x hx := by
    unfold upd at hx
    rw [Bool.or_eq_true] at hx
    rcases hx with hx | hx
    · exact hhi x hx
    · rw [of_decide_eq_true hx]; exact hk
  done := by unfold upd; simp
  vis q o m he := ⟨_, .fin hd hn he⟩
  rank x hx := by
    have h1 := hem k none x
    have h2 := List.count_pos_iff.2 hx
    split at h1
    · rename_i e; rw [e]; exact Nat.le_refl _
    · omega
  few x := by
    have h1 := hem k none x
    by_cases hx : x = k
    · subst hx
      rw [if_pos rfl] at h1
      have e1 : cnt ch (upd d x) x = 0 := by unfold cnt; rw [if_pos (by unfold upd; simp)]
      have e2 : 1 ≤ cnt ch d x := by unfold cnt; rw [hd, if_neg (by simp)]; omega
      omega
    · rw [if_neg hx] at h1
      have := cnt_mono (ch := ch) (d := d) (d' := upd d k) (fun x hx => by unfold upd; rw [hx]; rfl) x
      omega
theorem Vis.more {k j : Int} {d1 d2 : Int → Bool} {X1 X2 : List Int} (hem : ∀ k y x, (em k y).count x ≤ if x = k then 1 else 0) (hd : d k = false) (hn : nxt ch d k = some j) (hr : rk j < rk k) (h1 : Vis em ch ok rk d j X1 d1) (h2 : Vis em ch ok rk d1 k X2 d2) : Vis em ch ok rk d k (em k (some j) ++ (X1 ++ X2)) d2 where
  mono x hx := h2.mono x (h1.mono x hx)
  hi := h2.hi
  done := h2.done
  vis q o m he := by
    obtain ⟨m1, he1⟩ := h2.vis q o m he
    obtain ⟨m2, he2⟩ := h1.vis (k :: q) (X2 ++ o) m1 he1
    exact ⟨_, by rw [List.append_assoc, List.append_assoc]; exact .more hd hn he2⟩
  rank x hx := by
    rw [List.mem_append, List.mem_append] at hx
    rcases hx with hx | hx | hx
    · have h1 := hem k (some j) x
      have h2 := List.count_pos_iff.2 hx
      split at h1
      · rename_i e; rw [e]; exact Nat.le_refl _
      · omega
    · have := h1.rank x hx; omega
    · exact h2.rank x hx
  few x := by
    rw [List.count_append, List.count_append]
    have e1 := hem k (some j) x
    have e2 := h1.few x
    have e3 := h2.few x
    by_cases hx : x = k
    · subst hx
      rw [if_pos rfl] at e1
      have hz : X1.count x = 0 := by
        rw [List.count_eq_zero]
        intro hm
        have := h1.rank x hm
        omega
      have hlt : cnt ch d1 x + 1 ≤ cnt ch d x := by
        unfold cnt
        have e : (if (false = true) then 0 else ((usesL (ch x)).filter (fun y => !d y)).length + 1) = ((usesL (ch x)).filter (fun y => !d y)).length + 1 := if_neg (by decide)
        rw [hd, e]
        split
        · omega
        · have := filt_lt (j := j) (p := fun y => !d y) (p' := fun y => !d1 y) (l := usesL (ch x)) (fun y hy => by
            cases hdy : d y
            · rfl
            · rw [h1.mono y hdy] at hy; cases hy) (usesL_mem.2 (nxt_some hn).1) (by rw [(nxt_some hn).2]; rfl) (by rw [h1.done]; rfl)
          omega
      omega
    · rw [if_neg hx] at e1
      omega

/-- What can be done is done ahead of the rest. -/
theorem visit_all (hg : Gr n ch d0 ok rk) (hem : ∀ k y x, (em k y).count x ≤ if x = k then 1 else 0) : ∀ (r : Nat) (k : Int), rk k < r → ok k = true → ∀ d : Int → Bool, (∀ x, d0 x = true → d x = true) → (∀ x, d x = true → ok x = true) → ∃ d' X, Vis em ch ok rk d k X d' := by
  intro r
  induction r with
  | zero => intro k hr; omega
  | succ r ih =>
    intro k hr hk
    have inner : ∀ (c : Nat) (d : Int → Bool), ((ch k).filter (fun x => !d x)).length ≤ c → (∀ x, d0 x = true → d x = true) → (∀ x, d x = true → ok x = true) → ∃ d' X, Vis em ch ok rk d k X d' := by
      intro c
      induction c with
      | zero =>
        intro d hc hlo hhi
        cases hd : d k
        · cases hn : nxt ch d k with
          | none => exact ⟨_, _, Vis.fin hem hd hn hk hhi⟩
          | some j =>
            have h1 : (ch k).filter (fun x => !d x) = [] := List.length_eq_zero_iff.1 (by omega)
            have h2 : j ∈ (ch k).filter (fun x => !d x) := List.mem_filter.2 ⟨(nxt_some hn).1, by rw [(nxt_some hn).2]; rfl⟩
            rw [h1] at h2
            cases h2
        · exact ⟨_, _, Vis.here hd hhi⟩
      | succ c ihc =>
        intro d hc hlo hhi
        cases hd : d k
        · cases hn : nxt ch d k with
          | none => exact ⟨_, _, Vis.fin hem hd hn hk hhi⟩
          | some j =>
            have hd0 : d0 k = false := by
              cases hx : d0 k
              · rfl
              · rw [hlo k hx] at hd; cases hd
            obtain ⟨hjo, hjr⟩ := hg.down k hk hd0 j (nxt_some hn).1
            obtain ⟨d1, X1, h1⟩ := ih j (by omega) hjo d hlo hhi
            have hlt : ((ch k).filter (fun x => !d1 x)).length < ((ch k).filter (fun x => !d x)).length := filt_lt (j := j) (fun x hx => by
              cases hdx : d x
              · rfl
              · rw [h1.mono x hdx] at hx; cases hx) (nxt_some hn).1 (by rw [(nxt_some hn).2]; rfl) (by rw [h1.done]; rfl)
            obtain ⟨d2, X2, h2⟩ := ihc d1 (by omega) (fun x hx => h1.mono x (hlo x hx)) h1.hi
            exact ⟨_, _, Vis.more hem hd hn hjr h1 h2⟩
        · exact ⟨_, _, Vis.here hd hhi⟩
    exact fun d => inner _ d (Nat.le_refl _)

/-- A queue of keys that can be done comes to its end. -/
theorem ends_all (hg : Gr n ch d0 ok rk) (hem : ∀ k y x, (em k y).count x ≤ if x = k then 1 else 0) : ∀ (q : List Int), (∀ k ∈ q, ok k = true) → ∀ d : Int → Bool, (∀ x, d0 x = true → d x = true) → (∀ x, d x = true → ok x = true) → ∃ o m, Ends em ch d q o m ∧ ∀ x, o.count x ≤ cnt ch d x
  | [], _, d, _, _ => ⟨[], 0, .nil d, by simp⟩
  | k :: q, hq, d, hlo, hhi => by
    obtain ⟨d', X, h⟩ := visit_all (em := em) hg hem (rk k + 1) k (Nat.lt_succ_self _) (hq k (by simp)) d hlo hhi
    obtain ⟨o, m, he, hf⟩ := ends_all hg hem q (fun x hx => hq x (by simp [hx])) d' (fun x hx => h.mono x (hlo x hx)) h.hi
    obtain ⟨m', he'⟩ := h.vis q o m he
    refine ⟨_, _, he', fun x => ?_⟩
    rw [List.count_append]
    have := h.few x
    have := hf x
    omega

open Classical in
/-- What is told of a queue. -/
noncomputable def endsL (em : Int → Option Int → List Int) (ch : Int → List Int) (d : Int → Bool) (q : List Int) : List Int := if h : ∃ o m, Ends em ch d q o m then h.choose else []
theorem endsL_eq (h : Ends em ch d q o m) : endsL em ch d q = o := by
  have hx : ∃ o m, Ends em ch d q o m := ⟨o, m, h⟩
  unfold endsL
  rw [dif_pos hx]
  obtain ⟨m', h'⟩ := hx.choose_spec
  exact (h'.det h).1

theorem len_count : ∀ (n : Nat) (l : List Int) (B : Nat), (∀ x ∈ l, 0 ≤ x ∧ x < n) → (∀ x, l.count x ≤ B) → l.length ≤ n * B
  | 0, l, B, h, _ => by
    cases l with
    | nil => simp
    | cons x r => have := h x (by simp); omega
  | n + 1, l, B, h, hB => by
    have h1 := len_count n (l.filter (fun x => x != (n : Int))) B (fun x hx => by
      rw [List.mem_filter] at hx
      have h2 := h x hx.1
      have h3 : x ≠ (n : Int) := by simpa using hx.2
      omega) (fun x => Nat.le_trans (List.Sublist.count_le x (List.filter_sublist)) (hB x))
    have h2 : l.length = (l.filter (fun x => x != (n : Int))).length + l.count (n : Int) := by
      clear h hB h1
      induction l with
      | nil => simp
      | cons x r ih =>
        rw [List.filter_cons, List.count_cons, List.length_cons]
        by_cases hx : x = (n : Int)
        · subst hx; simp; omega
        · have e : (x != (n : Int)) = true := by simpa using hx
          have e2 : (x == (n : Int)) = false := by simpa using hx
          rw [e, e2]; simp; omega
    have h3 := hB (n : Int)
    rw [Nat.succ_mul]
    omega
end
end Go.Proofs.Ytklmpagpkeffjaa

/- the closures of impl.OrderSuspend and impl.OrderRestart: a step that is told of -/
namespace Go.Proofs.Ytklmpagpkeffjaa
open Go.RowKit

/-- Restarting tells each key that is tried; suspending each one that is done. -/
def emR : Int → Option Int → List Int := fun k _ => [k]
def emS : Int → Option Int → List Int := fun k x => if x = none then [k] else []


theorem NumRow.al {w : World} {b : Nat} {v : Value} {l : List Int} (h : NumRow w b v l) (o : Obj) : NumRow (w.alloc o) b v l := World.ownsRow.alloc h o
theorem NumRow.dr {w : World} {b : Nat} {v : Value} {l : List Int} (h : NumRow w b v l) : NumRow w.drew b v l := ElRow.drew (f := Value.int .i64) (e := 3) h

theorem gr_fr {w1 w2 : World} {row : Option Nat} (h : w1.grownBy w2 row) : Fr (fun b => row = some b) w1 w2 := ⟨h.os, h.tape, h.output, h.size, fun b hb hn => h.block b hb (fun e => hn e.symm)⟩
theorem ord_push {S : Nat → Prop} {s : Sh} {g n : Nat} {m : Nat → Nat → Value} {vv : Int → Int} {d : Int → Bool} {bx base : Nat} {w w0 w1 : World} {v u : Value} {tr : List Int} {k : Int} (hN : Nds w S s g n m vv d) (hO : OrdAt w bx base v tr) (hS : ∀ b, S b → b < g ∧ b ≠ bx) (hbx : bx < g) (hgb : g + n ≤ base)
    (hw : Below w.heap.size w w0) (hgr : w0.grownBy w1 v.ownBlock) (hown : NumRow w1 base u (tr ++ [k])) (hnew : ∀ b, u.ownBlock = some b → v.ownBlock = some b ∨ w0.heap.size ≤ b) :
    Nds (w1.setCell ⟨bx, 0, none⟩ u) S s g n m vv d ∧ OrdAt (w1.setCell ⟨bx, 0, none⟩ u) bx base u (tr ++ [k]) ∧ Fr (fun b => b = bx ∨ v.ownBlock = some b) w (w1.setCell ⟨bx, 0, none⟩ u) ∧ (∀ b, u.ownBlock = some b → v.ownBlock = some b ∨ w.heap.size ≤ b) := by
  have hvl := World.ownsRow.lt hO.2
  have hf0 : Fr (fun b => b = bx ∨ v.ownBlock = some b) w w1 := (Fr.of_below (D := fun b => b = bx ∨ v.ownBlock = some b) hw).trans (gr_fr hgr) (fun b hb => .inl (.inr hb))
  have hf : Fr (fun b => b = bx ∨ v.ownBlock = some b) w (w1.setCell ⟨bx, 0, none⟩ u) := hf0.set' ⟨bx, 0, none⟩ (.inl rfl) u
  refine ⟨hN.fr hf (fun b hb h => ?_), ⟨?_, ?_⟩, hf, fun b hb => (hnew b hb).imp id (fun h => Nat.le_trans hw.size h)⟩
  · rcases hb with hb | hb
    · rcases h with h | h
      · exact (hS b h).2 hb
      · omega
    · have := (hvl b hb).1
      rcases h with h | h
      · have := (hS b h).1; omega
      · omega
  · have hb : Blk w1 bx 30 #[v] := hO.1.fr ((Fr.of_below (D := fun b => v.ownBlock = some b) hw).trans (gr_fr hgr) (fun b hb => .inl hb)) (fun h => by have := (hvl bx h).1; omega)
    exact hb.set_ 0 u
  · exact ElRow.fr (f := Value.int .i64) (e := 3) hown (Fr.set' (D := fun b => b = bx) (Fr.of_below (Below.refl _ _)) ⟨bx, 0, none⟩ rfl u) (fun b hb => by omega)
theorem ord_keep {g n bx base : Nat} {w w' : World} {v : Value} {tr : List Int} (h : OrdAt w bx base v tr) (hf : Fr (ndB g n) w w') (hbx : bx < g) (hgb : g + n ≤ base) : OrdAt w' bx base v tr :=
  ⟨h.1.fr hf (fun hd => by have := hd.1; omega), ElRow.frO (f := Value.int .i64) (e := 3) h.2 hf (fun b hb hd => by have := (World.ownsRow.lt h.2 b hb).1; have := hd.2; omega)⟩

section
variable {S : Nat → Prop} {s : Sh} {g n : Nat} {cv : (Int → Bool) → Int → Int} {ch : Int → List Int} {d0 ok : Int → Bool} {bx base : Nat}

set_option maxHeartbeats 2000000 in
theorem restart_step (hst : StepOk 68 S s g n cv ch d0 ok) (hS : ∀ b, S b → b < g ∧ b ≠ bx) (hbx : bx < g) (hgb : g + n ≤ base) : StepJ emR 74 #[.pointer (some ⟨bx, 0, none⟩)] S s g n cv ch d0 ok bx base where
  enters := enters_of Try.func74 (by kernel_rfl) rfl
  em1 := fun _ _ => by simp [emR]
  call := by
    intro d w i v tr hi hd hlo hhi hN hO htl hbase
    have HC := Lib.hid hst
    have HS := Lib.hid hS
    have HL := Lib.hid (And.intro hlo hhi)
    have HN := Lib.hid hN
    have HO := Lib.hid hO
    have HD := Lib.hid hd
    have HVB := Lib.hid (show ∀ b, v.ownBlock = some b → b = bx → False from fun b hb e => by have := (World.ownsRow.lt hO.2 b hb).1; omega)
    obtain ⟨_, _, hgi, z0, -, -, -, -, -, -, -, -⟩ := hN.node hi
    have hbl : bx < w.heap.size := hO.1.lt
    obtain ⟨y0, f0⟩ := hO.1.one
    clear hst hS hlo hhi hN hO hd
    go_enter Try.func74, Try.ntmps74
    go_wp2_with fail
    go_region_law (
      (refine step_append_num rfl (.tmp 4) (.tmp 9) rfl base v tr rfl (by repeat (first | exact HO.out.2 | refine NumRow.dr ?_ | refine NumRow.al ?_ _)) ⟨w.heap.size, 0, none⟩ (i : Int) rfl (news1 _ _ _ 0 _ rfl) (by omega) (by simp; omega) ?_
       intro v1 w1 hown1 hgr1 hnew1
       obtain ⟨gr, cap, rfl⟩ := own_some hown1 (by simp)
       have hb1 : Blk w1 bx 30 #[v] := (hgr1.block bx (by simp; omega) (by intro e; exact HVB.out bx e.symm rfl)).trans (by repeat (first | exact HO.out.1 | refine Blk.drew ?_ | refine Blk.alloc ?_ _))
       obtain ⟨y1, f1⟩ := hb1.one))
    all_goals
      rw [List.length_append, List.length_singleton] at hown1 hnew1
      have hp := ord_push HN.out HO.out HS.out hbx hgb (by repeat (first | exact Below.refl _ _ | refine Below.drew ?_ | refine Below.alloc ?_ (Nat.le_refl _) _)) hgr1 hown1 hnew1
      obtain ⟨W, hW⟩ : ∃ W, W = w1.setCell ⟨bx, 0, none⟩ (.slice (some ⟨gr, 0, none⟩) (tr.length + 1) cap) := ⟨_, rfl⟩
      rw [← hW] at hp ⊢
      have HP := Lib.hid hp
      clear hp hW hown1 hgr1 hnew1 hb1 y1 f1 y0 f0 z0
      go_wp2_with fail
      refine (HC.out.call d W i hi HD.out HL.out.1 HL.out.2 HP.out.1).mono ?_
      rintro e w3 ⟨hf, hcase⟩
      have ho3 := ord_keep HP.out.2.1 hf hbx hgb
      have hf3 : Fr (ojB g n bx v) w w3 := (HP.out.2.2.1.weaken (fun b hb => .inr hb)).trans hf (fun b hb => .inl (.inl hb))
      have H3 := Lib.hid (And.intro ho3 hf3)
      have hs3 := hf.size
      clear ho3 hf3 hf
      rcases hcase with ⟨j, hnx, rfl, hnd⟩ | ⟨hnx, rfl, hnd⟩
      · have H4 := Lib.hid (And.intro hnx hnd)
        clear hnx hnd
        go_wp2_with fail
        go_ret
        exact ⟨_, H3.out.1, HP.out.2.2.2, H3.out.2, .inl ⟨j, H4.out.1, rfl, H4.out.2⟩⟩
      · have H4 := Lib.hid (And.intro hnx hnd)
        clear hnx hnd
        go_wp2_with fail
        go_ret
        exact ⟨_, H3.out.1, HP.out.2.2.2, H3.out.2, .inr ⟨H4.out.1, rfl, H4.out.2⟩⟩

set_option maxHeartbeats 2000000 in
theorem suspend_step (hst : StepOk 68 S s g n cv ch d0 ok) (hS : ∀ b, S b → b < g ∧ b ≠ bx) (hbx : bx < g) (hgb : g + n ≤ base) : StepJ emS 67 #[.pointer (some ⟨bx, 0, none⟩)] S s g n cv ch d0 ok bx base where
  enters := enters_of Try.func67 (by kernel_rfl) rfl
  em1 := fun _ x => by unfold emS; split <;> simp
  call := by
    intro d w i v tr hi hd hlo hhi hN hO htl hbase
    have HC := Lib.hid (hst.call d w i hi hd hlo hhi hN)
    have HS := Lib.hid hS
    have HO := Lib.hid hO
    clear hst hS hlo hhi hN hO hd
    go_enter Try.func67, Try.ntmps67
    go_wp2_with fail
    refine HC.out.mono ?_
    rintro e w2 ⟨hf, hcase⟩
    have ho2 := ord_keep HO.out hf hbx hgb
    have hf2 : Fr (ojB g n bx v) w w2 := hf.weaken (fun b hb => .inl hb)
    have hs2 := hf.size
    have H2 := Lib.hid (And.intro ho2 hf2)
    clear ho2 hf2 hf HC
    rcases hcase with ⟨j, hnx, rfl, hnd⟩ | ⟨hnx, rfl, hnd⟩
    · have H4 := Lib.hid (And.intro hnx hnd)
      have hne : ndP g j = .pointer (some ⟨g + j.toNat, 0, none⟩) := rfl
      rw [hne]
      clear hnx hnd hne
      go_wp2_with fail
      go_ret
      refine ⟨v, ?_, fun _ h => .inl h, H2.out.2, .inl ⟨j, H4.out.1, rfl, H4.out.2⟩⟩
      have e : emS i (nxt ch d i) = [] := by rw [H4.out.1]; rfl
      rw [e, List.append_nil]
      exact H2.out.1
    · obtain ⟨_, _, hgi, z0, -, -, -, -, -, -, -, -⟩ := hnd.node hi
      have hbl : bx < w2.heap.size := H2.out.1.1.lt
      obtain ⟨y0, f0⟩ := H2.out.1.1.one
      have HVB := Lib.hid (show ∀ b, v.ownBlock = some b → b = bx → False from fun b hb e => by have := (World.ownsRow.lt H2.out.1.2 b hb).1; omega)
      have H4 := Lib.hid (And.intro hnx hnd)
      clear hnx hnd
      go_wp2_with fail
      go_region_law (
        (refine step_append_num rfl (.tmp 9) (.tmp 14) rfl base v tr rfl (by repeat (first | exact H2.out.1.2 | refine NumRow.dr ?_ | refine NumRow.al ?_ _)) ⟨w2.heap.size, 0, none⟩ (i : Int) rfl (news1 _ _ _ 0 _ rfl) (by omega) (by simp; omega) ?_
         intro v1 w1 hown1 hgr1 hnew1
         obtain ⟨gr, cap, rfl⟩ := own_some hown1 (by simp)
         have hb1 : Blk w1 bx 30 #[v] := (hgr1.block bx (by simp; omega) (by intro e; exact HVB.out bx e.symm rfl)).trans (by repeat (first | exact H2.out.1.1 | refine Blk.drew ?_ | refine Blk.alloc ?_ _))
         obtain ⟨y1, f1⟩ := hb1.one))
      all_goals
        rw [List.length_append, List.length_singleton] at hown1 hnew1
        have hp := ord_push H4.out.2 H2.out.1 HS.out hbx hgb (by repeat (first | exact Below.refl _ _ | refine Below.drew ?_ | refine Below.alloc ?_ (Nat.le_refl _) _)) hgr1 hown1 hnew1
        obtain ⟨W, hW⟩ : ∃ W, W = w1.setCell ⟨bx, 0, none⟩ (.slice (some ⟨gr, 0, none⟩) (tr.length + 1) cap) := ⟨_, rfl⟩
        rw [← hW] at hp ⊢
        have HP := Lib.hid hp
        clear hp hW hown1 hgr1 hnew1 hb1 y1 f1 y0 f0 z0
        go_wp2_with fail
        go_ret
        have e : emS i (nxt ch d i) = [(i : Int)] := by rw [H4.out.1]; rfl
        refine ⟨_, by rw [e]; exact HP.out.2.1, fun b hb => (HP.out.2.2.2 b hb).imp id (fun h => by omega), H2.out.2.trans HP.out.2.2.1 (fun b hb => .inl (.inr hb)), .inr ⟨H4.out.1, rfl, HP.out.1⟩⟩
end
end Go.Proofs.Ytklmpagpkeffjaa

/- impl.BuildAll -/
namespace Go.Proofs.Ytklmpagpkeffjaa
open Go.RowKit

theorem irow_row {w : World} {g base : Nat} {l : List Int} (h : IRow w g l.length l) (hb : base ≤ g) (hl : l.length ≤ 9223372036854775807) : NumRow w base (.slice (some ⟨g, 0, none⟩) l.length l.length) l := by
  obtain ⟨cs, h1, h2, h3⟩ := h
  refine ElRow.of_blk (f := Value.int .i64) h1 hb (List.ext_getElem (by simp [h2]) fun i hi1 hi2 => ?_) hl
  have h := h3 i (by simpa using hi2)
  obtain ⟨_, h⟩ := Array.getElem?_eq_some_iff.1 h
  simp [h]
theorem IRow.set_snoc {w : World} {g n : Nat} {l : List Int} (h : IRow w g n l) (hl : l.length < n) (x : Int) : IRow (w.setCell ⟨g, l.length, none⟩ (.int .i64 x)) g n (l ++ [x]) := by
  obtain ⟨cs, h1, h2, h3⟩ := h
  refine ⟨_, h1.set_ _ _, by simp [h2], fun i hi => ?_⟩
  rw [List.length_append, List.length_singleton] at hi
  rw [Array.getElem?_setIfInBounds]
  by_cases hil : l.length = i
  · subst hil
    rw [if_pos rfl, if_pos (by omega)]; simp
  · rw [if_neg hil, List.getElem_append_left (by omega)]
    exact h3 i (by omega)
theorem IRow.fr {D : Nat → Prop} {w w' : World} {g n : Nat} {l : List Int} (h : IRow w g n l) (hf : Fr D w w') (hD : ¬ D g) : IRow w' g n l := by
  obtain ⟨cs, h1, h2, h3⟩ := h
  exact ⟨cs, h1.fr hf hD, h2, h3⟩
theorem IRow.below {w w' : World} {g n : Nat} {l : List Int} (h : IRow w g n l) (hb : Below w.heap.size w w') : IRow w' g n l := by
  obtain ⟨cs, h1, h2, h3⟩ := h
  exact ⟨cs, h1.below hb h1.lt, h2, h3⟩
theorem IRow.lt {w : World} {g n : Nat} {l : List Int} (h : IRow w g n l) : g < w.heap.size := by obtain ⟨_, h1, _⟩ := h; exact h1.lt

set_option maxRecDepth 100000 in
set_option maxHeartbeats 4000000 in
theorem implAll_any (s : Sh) (l : List Int) (w : World) (S0 S' : Nat → Prop) (a : Option Addr) (c : Nat) (a' : Option Addr) (c' : Nat) (ai : Option Addr) (ci : Nat) (h0 : ShAt w S0 s a c a' c') (hl : IntsAt w S' l ai ci) :
    Calls Try.prog 24 #[.agg #[.slice a s.m.length c, .slice a' s.t.length c'], .slice ai l.length ci] w (BaPost s l w) := by
  obtain ⟨S, hSd⟩ : ∃ S : Nat → Prop, S = fun b => S0 b ∧ b < w.heap.size := ⟨_, rfl⟩
  have hSl : ∀ b, S b → b < w.heap.size := by rw [hSd]; exact fun b h => h.2
  have h : ShAt w S s a c a' c' := by rw [hSd]; exact h0.lim
  have HSL := Lib.hid hSl
  clear h0 hSd hSl
  have K0 := Lib.hid (Ks.start (ty := 26) h)
  have L0 := Lib.hid (hl.alloc (.cells #[.slice a s.m.length c, .slice a' s.t.length c'] 26))
  clear h hl
  obtain ⟨x0, x1⟩ := K0.out.box
  cases hin : inOk s l
  · have HNO := Lib.hid (show baB s l = false by unfold baB; rw [hin]; rfl)
    have HI := Lib.hid hin
    clear hin
    go_enter Try.func24, Try.ntmps24
    go_wp2_with fail
    refine (implInputs_any s l _ S S' a c a' c' ai ci K0.out.2 L0.out).mono ?_
    rintro e w1 ⟨rfl, hb⟩
    rw [HI.out]
    have K1 := Lib.hid (K0.out.step hb)
    clear hb x0 x1
    go_wp2_with fail
    go_ret2
    exact BaPost.no HNO.out K1.out.done (World.ownsRow_nil _ _ _ _)
  · have hok := (inOk_of hin).1
    have hll := (inOk_of hin).2.1
    have hmb : s.m.length ≤ 10 := (Sh.ok_iff.1 hok).1
    have hbb : baB s l = baTo s l s.m.length := by unfold baB; rw [hin]; rfl
    have HBB := Lib.hid hbb
    have HI := Lib.hid hin
    have HOK := Lib.hid hok
    obtain ⟨n, hn⟩ : ∃ n, n = s.m.length := ⟨_, rfl⟩
    have HN := Lib.hid hn
    have hll2 : l.length = n := by omega
    have HLL := Lib.hid hll2
    have hn10 : n ≤ 10 := by omega
    obtain ⟨i0, hi, hz0, hz1, hz2⟩ := info_parts infoInt
    have hmk := fun W => run_make_rowN (P := Try.prog) 30 3 i0 _ Try.underlying30 hi hz0 .i64 .i64 n n (Nat.le_refl _) (by rw [hz2]; omega) (by omega) W
    rw [hz1] at hmk
    clear hin hbb hok hll hn hll2 hmb
    go_enter Try.func24, Try.ntmps24
    go_wp2_with fail
    refine (implInputs_any s l _ S S' a c a' c' ai ci K0.out.2 L0.out).mono ?_
    rintro e w1 ⟨rfl, hb⟩
    rw [HI.out]
    have K1 := Lib.hid (K0.out.step hb)
    have L1 := Lib.hid (L0.out.below hb)
    clear hb x0 x1 K0 L0
    obtain ⟨x0, x1⟩ := K1.out.box
    rw [HLL.out]
    have hwlt : w.heap.size < w1.heap.size := by have := K1.out.size; omega
    go_wp2_with fail
    clear hmk
    have HC2 := Lib.hid (nodes_any' s l _ S S' a c a' c' ai ci (K1.out.2.alloc (.cells (madeCells #[.int .i64 0] n) 3)) (L1.out.alloc (.cells (madeCells #[.int .i64 0] n) 3)) HI.out)
    have hm1 : (madeCells #[Value.int IntKind.i64 0] n).size = n := by rw [size_madeCells]
    have hir : IRow (w1.alloc (.cells (madeCells #[.int .i64 0] n) 3)) w1.heap.size n [] := ⟨_, heap_alloc_new w1 _, hm1, by simp⟩
    have K2 := Lib.hid (K1.out.alloc (.cells (madeCells #[.int .i64 0] n) 3))
    have hs2 : (w1.alloc (.cells (madeCells #[.int .i64 0] n) 3)).heap.size = w1.heap.size + 1 := by simp
    obtain ⟨W, hW⟩ : ∃ W, W = w1.alloc (.cells (madeCells #[.int .i64 0] n) 3) := ⟨_, rfl⟩
    rw [← hW] at HC2 hir K2 hs2 ⊢
    rw [HLL.out] at HC2
    obtain ⟨gv, hgv⟩ : ∃ g, g = w1.heap.size := ⟨_, rfl⟩
    rw [← hgv] at hir hs2 hwlt ⊢
    have HIR := Lib.hid hir
    clear hW hm1 hir K1 L1 x0 x1 hgv
    refine HC2.out.mono ?_
    rintro e w3 ⟨g, b, rfl, hb1, hg1, hnb, hp, hnd, hb⟩
    rw [← HN.out] at hp hnd hnb ⊢
    have hS : ∀ b, (fun b => S b ∧ b < W.heap.size) b → b < g := fun b hb => by have := hb.2; omega
    have HS := Lib.hid hS
    have HP3 := Lib.hid (And.intro hp (And.intro (nds_start HOK.out hnd) (And.intro (K2.out.step hb).done (HIR.out.below hb))))
    have HNB := Lib.hid hnb
    have hs3 := hb.size
    have hgw : g + n ≤ w3.heap.size ∨ n = 0 := by
      rcases Nat.eq_zero_or_pos n with h | h
      · exact .inr h
      · obtain ⟨_, _, hl, _⟩ := hnd.node (i := n - 1) (by omega)
        exact .inl (by omega)
    have hbl : n = 0 ∨ b < w3.heap.size := by
      rcases Nat.eq_zero_or_pos n with h | h
      · exact .inl h
      · exact .inr (cell_lt (hp.cell h))
    clear HC2 hb hp hnd hS hnb HIR K2
    go_wp2_with fail
    go_loopw [20] (fun i wr => ∃ (k : Nat) (d : Int → Bool), k ≤ n ∧ i = .int .i64 k ∧ (∀ i, i < k → okS s l (i : Int) = true) ∧ (∀ q, (!s.mdI q) = true → d q = true) ∧ (∀ q, d q = true → okS s l q = true) ∧ PRow wr b g n n ∧
      Nds wr (fun b => S b ∧ b < W.heap.size) s g n (mpv s g n) (fun q => if d q = true then vsS s l q else vf l q) d ∧ Below w.heap.size w wr ∧ IRow wr gv n (baVs s l k)) (fun i _ => n - (intOf i).toNat)
    case atStart => exact ⟨0, fun k => !s.mdI k, by omega, rfl, fun i hi => by omega, fun _ h => h, fun k h => (gr_S HOK.out l).d0ok k h, HP3.out.1, HP3.out.2.1, HP3.out.2.2.1, HP3.out.2.2.2⟩
    case round =>
      obtain ⟨k, d, hk, rfl, hall, hlo, hhi, hp, hnd, hb, hir⟩ := hrel
      have H4 := Lib.hid (And.intro hall (And.intro hlo (And.intro hhi (And.intro hp (And.intro hnd (And.intro hb hir))))))
      clear HP3 hall hlo hhi hnd hb hir
      by_cases hlt : k < n
      · have hcell := hp.cell hlt
        clear hp
        go_wp2_with fail
        have hg := gr_S HOK.out l
        have hst := try_step (S := fun b => S b ∧ b < W.heap.size) (g := g) HI.out HS.out
        rw [← HN.out] at hg hst
        refine (finish_any hg hst hn10 HS.out wr d k hlt H4.out.2.1 H4.out.2.2.1 H4.out.2.2.2.2.1).mono ?_
        rintro e w4 ⟨d2, L, a4, c4, rfl, hat, hnd2, hdd, hdo, hfr, _, ⟨rfl, hdf⟩ | ⟨hne, hnok, hLc⟩⟩
        · obtain ⟨_, _, hgk, _, _, _, _, _, e14, _, _, _⟩ := hnd2.node hlt
          have e : (fun d k => if d k = true then vsS s l k else vf l k) d2 (k : Int) = vsS s l k := by simp only [hdf, if_true]
          rw [e] at e14
          obtain ⟨v, hv⟩ : ∃ v, v = vsS s l (k : Int) := ⟨_, rfl⟩
          rw [← hv] at e14
          have HV := Lib.hid hv
          have hgvn : ¬ ndB g n gv := fun h => by have := h.1; omega
          have hir4 := H4.out.2.2.2.2.2.2.fr hfr hgvn
          have hp4 := H4.out.2.2.2.1.fr hfr HNB.out
          have hb4 : Below w.heap.size w w4 := below_nd H4.out.2.2.2.2.2.1 hfr (by omega) H4.out.2.2.2.2.2.1.size
          obtain ⟨cs, hbk, hcs, _⟩ := id hir4
          have hf := hbk.frozen k
          have hx : w4.cell? ⟨gv, k, none⟩ = some (cs[k]'(by omega)) := by rw [hbk.cell k]; simp
          obtain ⟨y, hy⟩ : ∃ y, y = cs[k]'(by omega) := ⟨_, rfl⟩
          rw [← hy] at hx
          have hset := hir4.set_snoc (by rw [baVs_len]; exact hlt) v
          rw [baVs_len, hv, ← baVs_succ, ← hv] at hset
          have hfs : Fr (fun b => b = gv) w4 (w4.setCell ⟨gv, k, none⟩ (.int .i64 v)) := Fr.set' (D := fun b => b = gv) (Fr.of_below (Below.refl _ _)) ⟨gv, k, none⟩ rfl _
          have hnd5 := hnd2.fr hfs (fun b hb => by
            rintro (h | h)
            · have := HSL.out b h.1; omega
            · omega)
          have hok2 : ∀ i, i < k + 1 → okS s l (i : Int) = true := fun i hi => by
            by_cases hik : i = k
            · subst hik; exact hdo _ hdf
            · exact H4.out.1 i (by omega)
          have H5 := Lib.hid (And.intro hok2 (And.intro (fun q hq => hdd q (H4.out.2.1 q hq)) (And.intro hdo (And.intro (hp4.fr hfs (fun h => by
            have := hbk.lt
            rcases hbl with h2 | h2
            · omega
            · rw [h] at hb1; omega)) (And.intro hnd5 (And.intro (hb4.setCell (p := ⟨gv, k, none⟩) (by simp; omega) (.int .i64 v)) hset))))))
          have hgv4 : gv < w4.heap.size := hir4.lt
          clear hat hnd2 hdd hdo hfr hdf e hv hir4 hp4 hb4 hbk hcs hy hset hfs hnd5 hok2 hg hst hcell
          go_wp2_with fail
          go_roundw
          case rel => exact ⟨k + 1, d2, by omega, by go_num, H5.out.1, H5.out.2.1, H5.out.2.2.1, H5.out.2.2.2.1, H5.out.2.2.2.2.1, H5.out.2.2.2.2.2.1, H5.out.2.2.2.2.2.2⟩
          case measure => simp [intOf]; omega
        · have hb4 : Below w.heap.size w w4 := below_nd H4.out.2.2.2.2.2.1 hfr (by omega) H4.out.2.2.2.2.2.1.size
          have HB4 := Lib.hid hb4
          have HNO := Lib.hid (show baB s l = false by rw [HBB.out]; exact baTo_false (by rw [← HN.out]; exact hlt) hnok)
          have hlp2 : 0 < L.length := List.length_pos_iff.2 hne
          have hlp : decide ((0 : Int) < (L.length : Int)) = true := decide_eq_true (by omega)
          have hlp3 : decide (0 < L.length) = true := decide_eq_true hlp2
          have hLm : L.length ≤ 9223372036854775807 := by have := hat.1; have := hat.2.1; omega
          clear hat hnd2 hdd hdo hfr hnok hLc hb4 hg hst hcell hne
          go_wp2_with fail
          go_ret2
          exact BaPost.no HNO.out HB4.out (World.ownsRow_nil _ _ _ _)
      · obtain rfl : n = k := by omega
        have hbt : baTo s l n = true := by
          unfold baTo
          rw [List.all_eq_true]
          intro i hi
          exact H4.out.1 i (List.mem_range.1 hi)
        have HY := Lib.hid (show baB s l = true by rw [HBB.out, ← HN.out]; exact hbt)
        clear hbt hp
        go_wp2_with fail
        go_ret2
        refine BaPost.yes HY.out H4.out.2.2.2.2.2.1 ?_
        rw [← HN.out]
        have h := irow_row (base := w.heap.size) (show IRow wr gv (baVs s l n).length (baVs s l n) by rw [baVs_len]; exact H4.out.2.2.2.2.2.2) (by omega) (by rw [baVs_len]; omega)
        rw [baVs_len] at h
        exact h
end Go.Proofs.Ytklmpagpkeffjaa
