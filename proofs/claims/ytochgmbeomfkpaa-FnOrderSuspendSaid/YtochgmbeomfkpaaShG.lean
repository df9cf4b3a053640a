/- the keys of a sheet: what can be built from nothing, with which value; what is safe: plain words, no program -/
import Derived.Test.YtochgmbeomfkpaaTry
import Derived.Test.YtochgmbeomfkpaaFinish
namespace Go.Proofs.Ytochgmbeomfkpaa

section
variable (ch : Int → List Int) (d0 : Int → Bool)
/-- What is done behind so many stages. -/
def gst : Nat → Int → Bool
  | 0, k => d0 k
  | i + 1, k => d0 k || (ch k).all (gst i)
theorem gst_succ {k : Int} : ∀ {i : Nat}, gst ch d0 i k = true → gst ch d0 (i + 1) k = true := by
  intro i
  induction i generalizing k with
  | zero => intro h; simp only [gst] at h ⊢; rw [h]; rfl
  | succ i ih =>
    intro h
    rw [gst, Bool.or_eq_true, List.all_eq_true] at h ⊢
    exact h.imp id fun h j hj => ih (h j hj)
theorem gst_mono {k : Int} {i j : Nat} (hij : i ≤ j) (h : gst ch d0 i k = true) : gst ch d0 j k = true := by
  obtain ⟨e, rfl⟩ := Nat.exists_eq_add_of_le hij
  clear hij
  induction e with
  | zero => exact h
  | succ e ih => exact gst_succ ch d0 ih
open Classical in
noncomputable def rkG (k : Int) : Nat := if h : ∃ i, gst ch d0 i k = true then (least h).choose else 0
open Classical in
noncomputable def okG (k : Int) : Bool := decide (∃ i, gst ch d0 i k = true)
open Classical in
theorem okG_of {k : Int} {i : Nat} (h : gst ch d0 i k = true) : okG ch d0 k = true := by
  unfold okG; rw [decide_eq_true_iff]; exact ⟨i, h⟩
open Classical in
theorem rkG_le {k : Int} {i : Nat} (h : gst ch d0 i k = true) : rkG ch d0 k ≤ i := by
  have hx : ∃ i, gst ch d0 i k = true := ⟨i, h⟩
  unfold rkG; rw [dif_pos hx]
  rcases Nat.lt_or_ge i (least hx).choose with hl | hl
  · exact absurd h ((least hx).choose_spec.2 i hl)
  · exact hl
open Classical in
theorem okG_gst {k : Int} (h : okG ch d0 k = true) : gst ch d0 (rkG ch d0 k) k = true := by
  unfold okG at h; rw [decide_eq_true_iff] at h
  unfold rkG; rw [dif_pos h]; exact (least h).choose_spec.1
theorem gr_G (n : Nat) (hn : ∀ k, d0 k = false → 0 ≤ k ∧ k < n) : Gr n ch d0 (okG ch d0) (rkG ch d0) where
  d0ok k h := okG_of ch d0 (i := 0) h
  inn := hn
  down k h h0 j hj := by
    have h1 := okG_gst ch d0 h
    generalize hr : rkG ch d0 k = r at h1 ⊢
    cases r with
    | zero => simp only [gst] at h1; rw [h0] at h1; cases h1
    | succ i =>
      rw [gst, h0, Bool.false_or, List.all_eq_true] at h1
      exact ⟨okG_of ch d0 (h1 j hj), Nat.lt_succ_of_le (rkG_le ch d0 (h1 j hj))⟩
  up k h := by
    have hI : ∃ I, ∀ j ∈ ch k, rkG ch d0 j ≤ I := by
      generalize ch k = l
      induction l with
      | nil => exact ⟨0, by simp⟩
      | cons x r ih =>
        obtain ⟨I, hI⟩ := ih
        refine ⟨max I (rkG ch d0 x), fun j hj => ?_⟩
        rw [List.mem_cons] at hj
        rcases hj with rfl | hj
        · exact Nat.le_max_right _ _
        · exact Nat.le_trans (hI j hj) (Nat.le_max_left _ _)
    obtain ⟨I, hI⟩ := hI
    refine okG_of ch d0 (i := I + 1) ?_
    rw [gst, Bool.or_eq_true, List.all_eq_true]
    exact .inr fun j hj => gst_mono ch d0 (hI j hj) (okG_gst ch d0 (h j hj))

/-- As many stages as there are keys do. -/
theorem gst_all (n : Nat) (hn : ∀ k, d0 k = false → 0 ≤ k ∧ k < n) {k : Int} (h : okG ch d0 k = true) : gst ch d0 n k = true := by
  have key : ∀ r k, rkG ch d0 k = r → okG ch d0 k = true → ∃ L : List Int, L.length = r ∧ L.Nodup ∧ (∀ x ∈ L, 0 ≤ x ∧ x < n) ∧ (∀ x ∈ L, rkG ch d0 x ≤ r) := by
    intro r
    induction r with
    | zero => intro k _ _; exact ⟨[], rfl, by simp, by simp, by simp⟩
    | succ r ih =>
      intro k hr hk
      have h1 := okG_gst ch d0 hk
      rw [hr] at h1
      have hd : d0 k = false := by
        cases hx : d0 k
        · rfl
        · have := rkG_le ch d0 (i := 0) (k := k) hx; omega
      rw [gst, hd, Bool.false_or, List.all_eq_true] at h1
      by_cases hr0 : r = 0
      · subst hr0
        exact ⟨[k], rfl, by simp, fun x hx => by rw [List.mem_singleton] at hx; subst hx; exact hn x hd, fun x hx => by rw [List.mem_singleton] at hx; subst hx; omega⟩
      have hj : ∃ j ∈ ch k, rkG ch d0 j = r := by
        refine Classical.byContradiction fun hc => ?_
        obtain ⟨q, rfl⟩ : ∃ q, r = q + 1 := ⟨r - 1, by omega⟩
        have h2 : gst ch d0 (q + 1) k = true := by
          rw [gst, hd, Bool.false_or, List.all_eq_true]
          intro j hj
          have h3 := rkG_le ch d0 (h1 j hj)
          have h4 : rkG ch d0 j ≠ q + 1 := fun e => hc ⟨j, hj, e⟩
          exact gst_mono ch d0 (by omega) (okG_gst ch d0 (okG_of ch d0 (h1 j hj)))
        have := rkG_le ch d0 h2
        omega
      obtain ⟨j, hj, hjr⟩ := hj
      obtain ⟨L, h2, h3, h4, h5⟩ := ih j hjr (okG_of ch d0 (h1 j hj))
      refine ⟨L ++ [k], by simp [h2], ?_, fun x hx => ?_, fun x hx => ?_⟩
      · rw [List.nodup_append]
        refine ⟨h3, by simp, fun a ha b hb => ?_⟩
        rw [List.mem_singleton] at hb
        subst hb
        rintro rfl
        have := h5 a ha
        omega
      · rw [List.mem_append, List.mem_singleton] at hx
        rcases hx with hx | rfl
        · exact h4 x hx
        · exact hn x hd
      · rw [List.mem_append, List.mem_singleton] at hx
        rcases hx with hx | rfl
        · have := h5 x hx; omega
        · omega
  obtain ⟨L, h1, h2, h3, _⟩ := key _ k rfl h
  have := nodup_bound n L h2 h3
  exact gst_mono ch d0 (by omega) (okG_gst ch d0 h)
end

section
variable (s : Sh) (l : List Int)
def Sh.tkI (k : Int) : T := s.tk k.toNat
/-- Whether a key can be built from nothing with these inputs; its value; what it hangs on. -/
noncomputable def okS : Int → Bool := okV s.mdI s.tkI (vf l)
noncomputable def vsS : Int → Int := vsV s.mdI s.tkI (vf l)
noncomputable def chS : Int → List Int := chV s.mdI s.tkI (vf l)
/-- Whether a key has no circle by what may be fetched. -/
noncomputable def okM : Int → Bool := okG (chM s) (fun k => !s.mdI k)
end
theorem mdI_bd {s : Sh} {k : Int} (h : s.mdI k = true) : 0 ≤ k ∧ k < s.m.length := by
  unfold Sh.mdI Sh.md at h
  rw [Bool.and_eq_true, decide_eq_true_eq, List.getD_eq_getElem?_getD] at h
  refine ⟨h.1, ?_⟩
  rcases Nat.lt_or_ge k.toNat s.m.length with hl | hl
  · omega
  · rw [List.getElem?_eq_none hl] at h; cases h.2
theorem tkI_fit {s : Sh} (h : s.ok = true) (k : Int) : (s.tkI k).fit = true := (Sh.tk_fit h k.toNat).1
theorem gr_S {s : Sh} (h : s.ok = true) (l : List Int) : Gr s.m.length (chS s l) (fun k => !s.mdI k) (okS s l) (rkV s.mdI s.tkI (vf l)) :=
  gr_V s.mdI s.tkI (vf l) (fun k _ => tkI_fit h k) s.m.length (fun _ hk => mdI_bd hk)
theorem gr_M (s : Sh) : Gr s.m.length (chM s) (fun k => !s.mdI k) (okM s) (rkG (chM s) (fun k => !s.mdI k)) := gr_G _ _ _ (fun _ hk => mdI_bd (by simpa using hk))
theorem vsS_bd {s : Sh} {l : List Int} (h : inOk s l = true) (k : Int) : 0 ≤ vsS s l k ∧ vsS s l k ≤ 96 := by
  unfold inOk at h
  rw [Bool.and_eq_true, Bool.and_eq_true] at h
  exact vs_bd s.mdI s.tkI (vf l) (fun k _ => tkI_fit h.1 k) (vf_bd (vok_mem h.2.2).2) k
theorem inOk_of {s : Sh} {l : List Int} (h : inOk s l = true) : s.ok = true ∧ l.length = s.m.length ∧ vok l = true := by
  unfold inOk at h
  rw [Bool.and_eq_true, Bool.and_eq_true, decide_eq_true_eq] at h
  exact h
theorem vsS_free {s : Sh} {l : List Int} (h : s.ok = true) {k : Int} (hk : s.mdI k = false) : vsS s l k = vf l k := vs_free s.mdI s.tkI (vf l) (fun k _ => tkI_fit h k) hk
theorem vsS_made {s : Sh} {l : List Int} (h : s.ok = true) {k : Int} (hk : s.mdI k = true) (ho : okS s l k = true) : vsS s l k = (s.tkI k).val (vsS s l) :=
  (vs_made s.mdI s.tkI (vf l) (fun k _ => tkI_fit h k) hk ho).2
theorem vf_far {l : List Int} {k : Int} (h : (l.length : Int) ≤ k) : vf l k = 0 := by unfold vf; rw [if_neg (by omega)]

/-- Try takes a step. -/
theorem try_step {S : Nat → Prop} {s : Sh} {l : List Int} {g : Nat} (hin : inOk s l = true) (hS : ∀ b, S b → b < g) :
    StepOk 52 S s g s.m.length (fun d k => if d k = true then vsS s l k else vf l k) (chS s l) (fun k => !s.mdI k) (okS s l) where
  call := by
    intro d w i hi hd hlo hhi hN
    obtain ⟨h1, h2, h3⟩ := inOk_of hin
    have hm : s.mdI (i : Int) = true := by
      cases hx : s.mdI (i : Int)
      · have := hlo (i : Int) (by simp only [hx]; rfl); rw [hd] at this; cases this
      · rfl
    refine try_any S s g s.m.length (vf l) (vsS s l) d w i hi h1 hS (vf_bd (vok_mem h3).2) (vsS_bd hin) (fun k hk => ?_) (fun hno => ?_) hN
    · have hmf : s.mdI k = false := by
        cases hx : s.mdI k
        · rfl
        · have := mdI_bd hx; omega
      exact ⟨by rw [vsS_free h1 hmf]; exact vf_far (by omega), hlo k (by simp only [hmf]; rfl)⟩
    · have hall : ∀ j ∈ chS s l (i : Int), okS s l j = true := fun j hj => hhi j (by
        have := List.find?_eq_none.1 hno j hj
        simpa using this)
      have hok := (gr_S h1 l).up (i : Int) hall
      exact (vsS_made h1 hm hok).symm
  enters := enters_of Try.func52 (by kernel_rfl) rfl
/-- Settle takes a step. -/
theorem settle_step {S : Nat → Prop} {s : Sh} {g : Nat} (v : Int → Int) (hS : ∀ b, S b → b < g) :
    StepOk 64 S s g s.m.length (fun _ => v) (chM s) (fun k => !s.mdI k) (okM s) where
  call := by
    intro d w i hi _ hlo _ hN
    refine settle_any S s g s.m.length v d w i hi hS (fun j hj => hlo (j : Int) ?_) hN
    have : s.mdI (j : Int) = false := by
      cases hx : s.mdI (j : Int)
      · rfl
      · have := mdI_bd hx; omega
    simp only [this]
    rfl
  enters := enters_of Try.func64 (by kernel_rfl) rfl
end Go.Proofs.Ytochgmbeomfkpaa
