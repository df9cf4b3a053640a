/- orders by suspending and by restarting: what is told, and how much; plain words, no program -/
import Derived.Test.YtochgmbeomfkpaaEndsC
import Derived.Test.YtochgmbeomfkpaaOrdJ
import Derived.Test.YtochgmbeomfkpaaOrdP
import Derived.Test.YtochgmbeomfkpaaSafeA
namespace Go.Proofs.Ytochgmbeomfkpaa
open Go.RowKit

def d0S (s : Sh) : Int → Bool := fun k => !s.mdI k
noncomputable def suB (s : Sh) (l ks : List Int) : Bool := (inOk s l && hkB s ks) && ks.all (okS s l)
noncomputable def suL (s : Sh) (l ks : List Int) : List Int := if suB s l ks = true then endsL emS (chS s l) (d0S s) ks else []
noncomputable def rsB (s : Sh) (l ks : List Int) : Bool := (inOk s l && hkB s ks) && safeB s
noncomputable def rsL (s : Sh) (l ks : List Int) : List Int := if rsB s l ks = true then endsL emR (chS s l) (d0S s) ks else []

/-- What an order's function leaves. -/
def OrP (B : Bool) (L : List Int) (w : World) (e : Ending) (w' : World) : Prop := Below w.heap.size w w' ∧ ∃ v, e = .returned (.tuple #[v, .bool B]) ∧ NumRow w' w.heap.size v L
theorem OrP.su_no {s : Sh} {l ks : List Int} {w w' : World} {v : Value} (h : suB s l ks = false) (hb : Below w.heap.size w w') (hv : NumRow w' w.heap.size v []) : OrP (suB s l ks) (suL s l ks) w (.returned (.tuple #[v, .bool false])) w' := by
  unfold suL
  rw [h, if_neg (by decide)]
  exact ⟨hb, v, rfl, hv⟩
theorem OrP.su_yes {s : Sh} {l ks : List Int} {w w' : World} {v : Value} {o : List Int} {m : Nat} (h : suB s l ks = true) (ho : Ends emS (chS s l) (d0S s) ks o m) (hb : Below w.heap.size w w') (hv : NumRow w' w.heap.size v o) : OrP (suB s l ks) (suL s l ks) w (.returned (.tuple #[v, .bool true])) w' := by
  unfold suL
  rw [h, if_pos rfl, endsL_eq ho]
  exact ⟨hb, v, rfl, hv⟩
theorem OrP.rs_no {s : Sh} {l ks : List Int} {w w' : World} {v : Value} (h : rsB s l ks = false) (hb : Below w.heap.size w w') (hv : NumRow w' w.heap.size v []) : OrP (rsB s l ks) (rsL s l ks) w (.returned (.tuple #[v, .bool false])) w' := by
  unfold rsL
  rw [h, if_neg (by decide)]
  exact ⟨hb, v, rfl, hv⟩
theorem OrP.rs_yes {s : Sh} {l ks : List Int} {w w' : World} {v : Value} {o : List Int} {m : Nat} (h : rsB s l ks = true) (ho : Ends emR (chS s l) (d0S s) ks o m) (hb : Below w.heap.size w w') (hv : NumRow w' w.heap.size v o) : OrP (rsB s l ks) (rsL s l ks) w (.returned (.tuple #[v, .bool true])) w' := by
  unfold rsL
  rw [h, if_pos rfl, endsL_eq ho]
  exact ⟨hb, v, rfl, hv⟩

theorem emR_cnt : ∀ (k : Int) (y : Option Int) (x : Int), (emR k y).count x ≤ if x = k then 1 else 0 := fun k y x => by
  unfold emR
  rw [List.count_singleton]
  by_cases h : x = k
  · subst h; simp
  · have : (k == x) = false := by simpa using fun e => h e.symm
    simp [this]
theorem emS_cnt : ∀ (k : Int) (y : Option Int) (x : Int), (emS k y).count x ≤ if x = k then 1 else 0 := fun k y x => by
  unfold emS
  split
  · exact emR_cnt k y x
  · simp

/-- What is safe never fails. -/
theorem safe_oks {s : Sh} {l : List Int} (hin : inOk s l = true) (hs : safeB s = true) (k : Int) : okS s l k = true := by
  obtain ⟨h1, _, _⟩ := inOk_of hin
  cases hm : s.mdI k
  · exact (gr_S h1 l).d0ok k (by simp only [hm]; rfl)
  · unfold safeB at hs
    rw [Bool.and_eq_true, List.all_eq_true] at hs
    have hk := mdI_bd hm
    have h := hs.2 k.toNat (List.mem_range.2 (by omega))
    rw [show ((k.toNat : Nat) : Int) = k by omega] at h
    exact safe_ok hs.1 l _ _ (Nat.le_refl _) h

theorem cnt_bd {s : Sh} {l : List Int} (hok : s.ok = true) (x : Int) : cnt (chS s l) (d0S s) x ≤ 16 := by
  unfold cnt
  split
  · omega
  · have h1 := List.length_filter_le (fun y => !d0S s y) (usesL (chS s l x))
    have h2 := usesL_len (chS s l x)
    have h3 := (T.kys_bd (vsS s l) (s.tkI x) (tkI_fit hok _)).2
    have h4 := (Sh.tk_fit hok x.toNat).2
    have h5 : (chS s l x).length ≤ (s.tkI x).nodes := h3
    have h6 : (s.tkI x).nodes ≤ 15 := h4
    omega
theorem ends_bd {s : Sh} {l o : List Int} (hok : s.ok = true) (hf : ∀ x, o.count x ≤ cnt (chS s l) (d0S s) x) : (∀ x ∈ o, s.mdI x = true) ∧ o.length ≤ 160 := by
  have h1 : ∀ x ∈ o, s.mdI x = true := fun x hx => by
    have h := hf x
    have h2 := List.count_pos_iff.2 hx
    cases hm : s.mdI x
    · unfold cnt at h
      rw [if_pos (by unfold d0S; rw [hm]; rfl)] at h
      omega
    · rfl
  refine ⟨h1, ?_⟩
  have h3 := len_count s.m.length o 16 (fun x hx => mdI_bd (h1 x hx)) (fun x => Nat.le_trans (hf x) (cnt_bd hok x))
  have := (Sh.ok_iff.1 hok).1
  have : s.m.length * 16 ≤ 10 * 16 := Nat.mul_le_mul_right 16 this
  omega
theorem rsL_bd (s : Sh) (l ks : List Int) : (∀ x ∈ rsL s l ks, 0 ≤ x ∧ x < 10) ∧ (rsL s l ks).length ≤ 160 := by
  unfold rsL
  split
  · rename_i h
    unfold rsB at h
    rw [Bool.and_eq_true, Bool.and_eq_true] at h
    have hok := (inOk_of h.1.1).1
    obtain ⟨o, m, he, hc⟩ := ends_all (em := emR) (gr_S hok l) emR_cnt ks (fun x _ => safe_oks h.1.1 h.2 x) (d0S s) (fun _ h => h) (fun x _ => safe_oks h.1.1 h.2 x)
    rw [endsL_eq he]
    have hb := ends_bd hok hc
    refine ⟨fun x hx => ?_, hb.2⟩
    have := mdI_bd (hb.1 x hx)
    have := (Sh.ok_iff.1 hok).1
    omega
  · simp
theorem suL_bd (s : Sh) (l ks : List Int) : (∀ x ∈ suL s l ks, 0 ≤ x ∧ x < 10) ∧ (suL s l ks).length ≤ 160 := by
  unfold suL
  split
  · rename_i h
    unfold suB at h
    rw [Bool.and_eq_true, Bool.and_eq_true, List.all_eq_true] at h
    have hok := (inOk_of h.1.1).1
    obtain ⟨o, m, he, hc⟩ := ends_all (em := emS) (gr_S hok l) emS_cnt ks h.2 (d0S s) (fun _ h => h) (fun x hx => (gr_S hok l).d0ok x hx)
    rw [endsL_eq he]
    have hb := ends_bd hok hc
    refine ⟨fun x hx => ?_, hb.2⟩
    have := mdI_bd (hb.1 x hx)
    have := (Sh.ok_iff.1 hok).1
    omega
  · simp
end Go.Proofs.Ytochgmbeomfkpaa
