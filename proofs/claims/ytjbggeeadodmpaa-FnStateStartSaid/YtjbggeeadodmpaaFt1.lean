/- several texts in one: FitQ, FitXT, FitXB -/
import Derived.Test.YtjbggeeadodmpaaStP
import Derived.Test.YtjbggeeadodmpaaStOkI
import Derived.Test.YtjbggeeadodmpaaBuildI
import Derived.Test.YtjbggeeadodmpaaSafeI
import Derived.BigQuiet
/- states that fit a way: plain words -/
namespace Go.Proofs.Ytjbggeeadodmpaa

section
variable (s : Sh) (x : St)
/-- A key, if it was built, has the value that it has from nothing with the inputs of the last build. -/
noncomputable def clnK (k : Nat) : Bool := !x.b.getD k false || (bkOk s x.i k && decide (bkV s x.i k = x.v.getD k 0))
noncomputable def cleanB : Bool := (List.range s.m.length).all (clnK s x)
def trcT (k : Nat) (t : Tr) : Bool := !decide (t.k = (k : Int)) || (x.b.getD k false && decide (t.v = x.v.getD k 0))
def cntL (l : List Tr) (k : Nat) : Nat := (l.filter fun t => decide (t.k = (k : Int))).length
/-- A key that was built has just one trace, whose value is its own; one that was not has none. -/
def trcK (k : Nat) : Bool := x.t.all (trcT x k) && (decide (cntL x.t k = 1) || !x.b.getD k false)
def traced : Bool := (List.range s.m.length).all (trcK x)
def hasK (l : List Tr) (k : Nat) : Bool := l.any fun t => decide (t.k = (k : Int))
def firstV (l : List Tr) (k : Nat) : Int := match l.find? (fun t => decide (t.k = (k : Int))) with | some t => t.v | none => 0
def verK (k : Nat) : Bool := decide (x.b.getD k false = hasK x.t k) && (!hasK x.t k || decide (firstV x.t k = x.v.getD k 0))
def verN (n : Nat) : Nat := ((List.range n).filter (hasK x.t)).length
def verB (n : Nat) : Bool := (List.range n).all (verK x) && decide (verN x n = x.t.length)
/-- What was used, in so many places, and 0 in all others. -/
def backN (n : Nat) (l : List (Int × Int)) : List Int := l.foldl (fun acc p => acc.set p.1.toNat p.2) (List.replicate n 0)
def deepP (p : Int × Int) : Bool := !s.mdI p.1 && (decide (p.1 < s.m.length) || decide (p.2 = 0))
noncomputable def deepV (t : Tr) : Bool := bkOk s (backN s.m.length t.u) t.k && decide (bkV s (backN s.m.length t.u) t.k = t.v)
noncomputable def deepT (t : Tr) : Bool := t.u.all (deepP s) && deepV s t
noncomputable def fitB (way : Int) : Bool :=
  if way = 0 then decide (x.t.length = 0) && (!safeB s || cleanB s x) else if way = 1 then honest s x.t && traced s x else if way = 2 then honest s x.t else if way = 3 then x.t.all (deepT s) else false
noncomputable def stFits (way : Int) : Bool := stOk s x && fitB s x way
end

theorem stOk_of {s : Sh} {x : St} (h : stOk s x = true) : s.ok = true ∧ x.fitN s.m.length ∧ trsOk x.t = true ∧ ∀ t ∈ x.t, s.mdI t.k = true := by
  unfold stOk at h
  rw [Bool.and_eq_true, Bool.and_eq_true, Bool.and_eq_true] at h
  obtain ⟨h1, h2, _, h4⟩ := h
  obtain ⟨a1, a2, _, _, a5⟩ := stA_of h1
  unfold stL at h2
  rw [Bool.and_eq_true, decide_eq_true_eq, decide_eq_true_eq] at h2
  unfold stT at h4
  rw [List.all_eq_true] at h4
  exact ⟨a1, ⟨h2, a2⟩, a5, h4⟩

theorem backN_len : ∀ (l : List (Int × Int)) (n : Nat), (backN n l).length = n := by
  intro l n
  unfold backN
  rw [foldl_back_len]; simp
theorem backN_snoc {n : Nat} {l : List (Int × Int)} {k : Nat} (h : k < l.length) : backN n (l.take (k + 1)) = (backN n (l.take k)).set l[k].1.toNat l[k].2 := by
  unfold backN; rw [List.take_succ_eq_append_getElem h, List.foldl_append]; rfl
theorem backN_mem {n : Nat} {l : List (Int × Int)} (h : ∀ p ∈ l, 0 ≤ p.2 ∧ p.2 ≤ 96) : ∀ y ∈ backN n l, 0 ≤ y ∧ y ≤ 96 :=
  foldl_back_mem l _ h (fun y hy => by rw [List.eq_of_mem_replicate hy]; omega)
theorem foldl_take (n : Nat) : ∀ (l : List (Int × Int)) (acc : List Int), (l.foldl (fun acc p => acc.set p.1.toNat p.2) acc).take n = l.foldl (fun acc p => acc.set p.1.toNat p.2) (acc.take n)
  | [], _ => rfl
  | p :: r, acc => by rw [List.foldl_cons, foldl_take n r, List.foldl_cons, List.take_set]
theorem backF_take {n : Nat} (hn : n ≤ 10) (l : List (Int × Int)) : (backF l).take n = backN n l := by
  unfold backF backN
  rw [foldl_take, List.take_replicate, Nat.min_eq_left hn]

-- counts
def sumR (n : Nat) (f : Nat → Nat) : Nat := match n with | 0 => 0 | n + 1 => sumR n f + f n
theorem sumR_add (f g : Nat → Nat) : ∀ n, sumR n (fun k => f k + g k) = sumR n f + sumR n g
  | 0 => rfl
  | n + 1 => by simp only [sumR, sumR_add f g n]; omega
theorem sumR_congr {f g : Nat → Nat} : ∀ n, (∀ k, k < n → f k = g k) → sumR n f = sumR n g
  | 0, _ => rfl
  | n + 1, h => by simp only [sumR]; rw [sumR_congr n (fun k hk => h k (by omega)), h n (by omega)]
theorem sumR_le {f g : Nat → Nat} : ∀ n, (∀ k, k < n → f k ≤ g k) → sumR n f ≤ sumR n g
  | 0, _ => Nat.le_refl _
  | n + 1, h => by have := sumR_le n (fun k hk => h k (by omega)); have := h n (by omega); simp only [sumR]; omega
theorem sumR_eq {f g : Nat → Nat} : ∀ n, (∀ k, k < n → f k ≤ g k) → sumR n f = sumR n g → ∀ k, k < n → f k = g k
  | 0, _, _, k, hk => by omega
  | n + 1, h, he, k, hk => by
    have h1 := sumR_le n (fun k hk => h k (by omega))
    have h2 := h n (by omega)
    simp only [sumR] at he
    by_cases hkn : k = n
    · subst hkn; omega
    · exact sumR_eq n (fun k hk => h k (by omega)) (by omega) k (by omega)
theorem sumR_zero : ∀ n, sumR n (fun _ => 0) = 0
  | 0 => rfl
  | n + 1 => by simp only [sumR, sumR_zero n]
theorem sumR_one (q : Int) : ∀ n : Nat, 0 ≤ q → q < n → sumR n (fun k => if q = (k : Int) then 1 else 0) = 1
  | 0, h0, h1 => by omega
  | n + 1, h0, h1 => by
    simp only [sumR]
    by_cases hq : q = (n : Int)
    · rw [if_pos hq, sumR_congr (g := fun _ => 0) n (fun k hk => by rw [if_neg (by omega)]), sumR_zero]
    · rw [if_neg hq, sumR_one q n h0 (by omega)]
theorem cntL_cons (t : Tr) (l : List Tr) (k : Nat) : cntL (t :: l) k = (if t.k = (k : Int) then 1 else 0) + cntL l k := by
  unfold cntL
  rw [List.filter_cons]
  by_cases h : t.k = (k : Int)
  · rw [if_pos (by simpa using h), if_pos h, List.length_cons]; omega
  · rw [if_neg (by simpa using h), if_neg h]; omega
theorem sum_cnt (n : Nat) : ∀ l : List Tr, (∀ t ∈ l, 0 ≤ t.k ∧ t.k < n) → sumR n (cntL l) = l.length
  | [], _ => by rw [sumR_congr (f := cntL []) (g := fun _ => 0) n (fun k _ => rfl), sumR_zero]; rfl
  | t :: l, h => by
    have h1 := h t (by simp)
    rw [sumR_congr (g := fun k => (if t.k = (k : Int) then 1 else 0) + cntL l k) n (fun k _ => cntL_cons t l k), sumR_add, sumR_one t.k n h1.1 h1.2, sum_cnt n l (fun u hu => h u (by simp [hu])), List.length_cons]; omega
theorem hasK_cnt (l : List Tr) (k : Nat) : hasK l k = decide (0 < cntL l k) := by
  induction l with
  | nil => rfl
  | cons t r ih =>
    rw [cntL_cons]
    unfold hasK at ih ⊢
    rw [List.any_cons, ih]
    by_cases h : t.k = (k : Int)
    · have h2 : decide (0 < 1 + cntL r k) = true := decide_eq_true (by omega)
      rw [decide_eq_true h, if_pos h, h2]; rfl
    · rw [decide_eq_false h, if_neg h, Nat.zero_add]; rfl
theorem verN_succ (x : St) (n : Nat) : verN x (n + 1) = verN x n + (if hasK x.t n = true then 1 else 0) := by
  unfold verN
  rw [List.range_succ, List.filter_append, List.length_append]
  congr 1
  rw [List.filter_cons]
  split <;> simp
theorem verN_sum (x : St) : ∀ n, verN x n = sumR n (fun k => if hasK x.t k = true then 1 else 0)
  | 0 => rfl
  | n + 1 => by rw [verN_succ, verN_sum x n]; rfl
theorem cnt_one {l : List Tr} {k : Nat} (h : cntL l k ≤ 1) {t : Tr} (ht : t ∈ l) (hk : t.k = (k : Int)) : t.v = firstV l k := by
  induction l with
  | nil => cases ht
  | cons u r ih =>
    rw [cntL_cons] at h
    unfold firstV at ih ⊢
    rw [List.find?_cons]
    by_cases hu : u.k = (k : Int)
    · rw [if_pos hu] at h
      rw [decide_eq_true hu]
      rw [List.mem_cons] at ht
      rcases ht with rfl | ht
      · rfl
      · exfalso
        have h1 : hasK r k = true := by unfold hasK; rw [List.any_eq_true]; exact ⟨t, ht, decide_eq_true hk⟩
        rw [hasK_cnt, decide_eq_true_eq] at h1
        omega
    · rw [if_neg hu] at h
      rw [decide_eq_false hu]
      rw [List.mem_cons] at ht
      rcases ht with rfl | ht
      · exact absurd hk hu
      · exact ih (by omega) ht
theorem firstV_mem {l : List Tr} {k : Nat} (h : hasK l k = true) : ∃ t ∈ l, t.k = (k : Int) ∧ t.v = firstV l k := by
  unfold firstV
  cases hf : l.find? (fun t => decide (t.k = (k : Int))) with
  | some t => exact ⟨t, List.mem_of_find?_eq_some hf, by simpa using List.find?_some hf, rfl⟩
  | none =>
    exfalso
    rw [List.find?_eq_none] at hf
    unfold hasK at h
    rw [List.any_eq_true] at h
    obtain ⟨t, ht, hk⟩ := h
    exact hf t ht hk
theorem traced_eq {s : Sh} {x : St} (hk : ∀ t ∈ x.t, s.mdI t.k = true) : traced s x = verB x s.m.length := by
  have hb : ∀ t ∈ x.t, 0 ≤ t.k ∧ t.k < s.m.length := fun t ht => mdI_bd (hk t ht)
  have hsum := sum_cnt s.m.length x.t hb
  rw [Bool.eq_iff_iff]
  unfold traced verB
  rw [Bool.and_eq_true, List.all_eq_true, List.all_eq_true, decide_eq_true_eq]
  constructor
  · intro h
    have hone : ∀ k, k < s.m.length → x.b.getD k false = hasK x.t k ∧ cntL x.t k = (if hasK x.t k = true then 1 else 0) ∧ (hasK x.t k = true → firstV x.t k = x.v.getD k 0) := by
      intro k hkn
      have h1 := h k (List.mem_range.2 hkn)
      unfold trcK at h1
      rw [Bool.and_eq_true, List.all_eq_true, Bool.or_eq_true, decide_eq_true_eq] at h1
      obtain ⟨h1, h2⟩ := h1
      cases hh : hasK x.t k
      · have hc : cntL x.t k = 0 := by have := hh; rw [hasK_cnt, decide_eq_false_iff_not] at this; omega
        refine ⟨?_, by rw [hc]; rfl, fun h => by cases h⟩
        rcases h2 with h2 | h2
        · omega
        · simpa using h2
      · obtain ⟨t, ht, htk, htv⟩ := firstV_mem hh
        have h3 := h1 t ht
        unfold trcT at h3
        rw [decide_eq_true htk] at h3
        simp only [Bool.not_true, Bool.false_or, Bool.and_eq_true, decide_eq_true_eq] at h3
        refine ⟨h3.1, ?_, fun _ => by rw [← htv]; exact h3.2⟩
        rcases h2 with h2 | h2
        · rw [h2, if_pos rfl]
        · rw [h3.1] at h2; cases h2
    refine ⟨fun k hkr => ?_, ?_⟩
    · obtain ⟨h1, _, h3⟩ := hone k (List.mem_range.1 hkr)
      unfold verK
      rw [h1]
      cases hh : hasK x.t k
      · simp
      · rw [decide_eq_true (h3 hh)]; simp
    · rw [verN_sum, ← hsum]
      exact sumR_congr _ fun k hkn => ((hone k hkn).2.1).symm
  · rintro ⟨h, hn⟩ k hkr
    have hkn := List.mem_range.1 hkr
    rw [verN_sum, ← hsum] at hn
    have hc := sumR_eq s.m.length (fun k _ => by
      split
      · rename_i hh; rw [hasK_cnt, decide_eq_true_eq] at hh; omega
      · omega) hn k hkn
    have h1 := h k hkr
    unfold verK at h1
    rw [Bool.and_eq_true, decide_eq_true_eq, Bool.or_eq_true, decide_eq_true_eq] at h1
    obtain ⟨h1, h2⟩ := h1
    unfold trcK
    rw [Bool.and_eq_true, List.all_eq_true, h1]
    cases hh : hasK x.t k
    · refine ⟨fun t ht => ?_, by simp⟩
      unfold trcT
      by_cases htk : t.k = (k : Int)
      · exfalso
        have : hasK x.t k = true := by unfold hasK; rw [List.any_eq_true]; exact ⟨t, ht, decide_eq_true htk⟩
        rw [hh] at this; cases this
      · rw [decide_eq_false htk]; rfl
    · rw [hh, if_pos rfl] at hc
      rw [hh] at h1 h2
      refine ⟨fun t ht => ?_, by rw [← hc]; rfl⟩
      unfold trcT
      by_cases htk : t.k = (k : Int)
      · have hv := cnt_one (by omega) ht htk
        have h3 : firstV x.t k = x.v.getD k 0 := by
          rcases h2 with h2 | h2
          · cases h2
          · exact h2
        rw [h1, hv, decide_eq_true h3]; simp
      · rw [decide_eq_false htk]; rfl
end Go.Proofs.Ytjbggeeadodmpaa
/- impl.kept: isNewOrUnbuilt, isTraced, isByInputs (written by wip/tools/gen_fitx.py) -/
namespace Go.Proofs.Ytjbggeeadodmpaa
open Go.RowKit

theorem eq_dec (a b : Int) : (a == b) = decide (a = b) := by rw [Bool.eq_iff_iff, beq_iff_eq, decide_eq_true_eq]
theorem num_madeN (w : World) (n : Nat) (hn : n ≤ 1000) : NumRow (w.alloc (.cells (madeCells #[.int .i64 0] n) 3)) w.heap.size (.slice (some ⟨w.heap.size, 0, none⟩) n n) (List.replicate n 0) := by
  have e : (madeCells #[Value.int .i64 0] n).toList = List.replicate n (.int .i64 0) := by
    refine List.ext_getElem (by simp [size_madeCells]) fun i h1 h2 => ?_
    have h2' : i < n := by simpa using h2
    have key : (madeCells #[Value.int .i64 0] n)[i]? = some (.int .i64 0) := by
      have hm := Nat.mod_one i
      simp [madeCells, h2', hm]
    obtain ⟨hx, he⟩ := Array.getElem?_eq_some_iff.1 key
    rw [List.getElem_replicate, Array.getElem_toList, he]
  have h := ElRow.of_blk (f := Value.int .i64) (base := w.heap.size) (l := List.replicate n (0 : Int)) (Blk.new w 3 (madeCells #[.int .i64 0] n)) (Nat.le_refl _) (by rw [e, List.map_replicate]) (by rw [List.length_replicate]; omega)
  simpa [ElRow, NumRow] using h

set_option maxRecDepth 100000 in
set_option maxHeartbeats 2000000 in
theorem isNew_any (s : Sh) (x : St) (k : Nat) (w : World) (S S' : Nat → Prop) (a : Option Addr) (c : Nat) (a' : Option Addr) (c' : Nat) (a1 : Option Addr) (c1 : Nat) (a2 : Option Addr) (c2 : Nat) (a3 : Option Addr) (c3 : Nat) (a4 : Option Addr) (c4 : Nat) (h : ShAt w S s a c a' c') (hx : StAt w S' x a1 c1 a2 c2 a3 c3 a4 c4) (hk : k < s.m.length) (hf : x.fitN s.m.length) :
    Calls Try.prog 58 #[.agg #[.slice a s.m.length c, .slice a' s.t.length c', .slice a1 x.v.length c1, .slice a2 x.b.length c2, .slice a3 x.i.length c3, .slice a4 x.t.length c4], .int .i64 k] w fun e w' => e = .returned (.bool (clnK s x k)) ∧ Below w.heap.size w w' := by
  obtain ⟨⟨n1, n2⟩, n3⟩ := hf
  have hl := hx.lens
  obtain ⟨bv, ov, hav, hbv, cv⟩ := ints_cell hx.1 (show k < x.v.length by omega)
  obtain ⟨bb, ob, hab, hbb, cb⟩ := bools_cell hx.2.1 (show k < x.b.length by omega)
  subst hav hab
  have hkv : (k : Int) < x.v.length := by omega
  have hkb : (k : Int) < x.b.length := by omega
  have hk0 : (0 : Int) ≤ k := by omega
  obtain ⟨W, hW⟩ : ∃ W, W = w.alloc (.cells #[.slice a s.m.length c, .slice a' s.t.length c', .slice (some ⟨bv, ov, none⟩) x.v.length c1, .slice (some ⟨bb, ob, none⟩) x.b.length c2, .slice a3 x.i.length c3, .slice a4 x.t.length c4] 83) := ⟨_, rfl⟩
  have HWW := Lib.hid hW
  have hb : Below w.heap.size w W := by rw [hW]; exact (Below.refl w.heap.size w).alloc (Nat.le_refl _) _
  have HB := Lib.hid hb
  have HP := Lib.hid (show Blk W w.heap.size 83 #[.slice a s.m.length c, .slice a' s.t.length c', .slice (some ⟨bv, ov, none⟩) x.v.length c1, .slice (some ⟨bb, ob, none⟩) x.b.length c2, .slice a3 x.i.length c3, .slice a4 x.t.length c4] by rw [hW]; exact Blk.new w 83 #[.slice a s.m.length c, .slice a' s.t.length c', .slice (some ⟨bv, ov, none⟩) x.v.length c1, .slice (some ⟨bb, ob, none⟩) x.b.length c2, .slice a3 x.i.length c3, .slice a4 x.t.length c4])
  have S0 := Lib.hid (show ShAt W S s a c a' c' by rw [hW]; exact h.alloc _)
  have I0 := Lib.hid (show IntsAt W S' x.i a3 c3 by rw [hW]; exact hx.2.2.1.alloc _)
  obtain ⟨p0, p1, p2, p3, p4, p5⟩ := HP.out.six
  have d1 := (hb.cell (p := ⟨bv, ov + k, none⟩) hbv).trans cv
  have d2 := (hb.cell (p := ⟨bb, ob + k, none⟩) hbb).trans cb
  have hbvW : bv < W.heap.size := Nat.lt_of_lt_of_le hbv hb.size
  obtain ⟨yv, hyv⟩ : ∃ y, y = x.v.getD k 0 := ⟨_, rfl⟩
  obtain ⟨yb, hyb⟩ : ∃ y, y = x.b.getD k false := ⟨_, rfl⟩
  rw [← hyv] at d1
  rw [← hyb] at d2
  have HKK := Lib.hid (show clnK s x k = (!yb || (bkOk s x.i k && decide (bkV s x.i k = yv))) by rw [hyv, hyb]; rfl)
  obtain ⟨r, hr⟩ : ∃ r, r = clnK s x k := ⟨_, rfl⟩
  have HR := Lib.hid hr
  have HD1 := Lib.hid d1
  have HBV := Lib.hid hbvW
  rw [← hr]
  rw [hW] at d2 p0 p1 p2 p3 p4 p5
  clear h hx hb cv cb hyv hyb hr hbv hbb n1 n2 n3 d1 hW hbvW
  cases yb
  · have HF := Lib.hid (show r = true by rw [HR.out, HKK.out]; rfl)
    go_enter Try.func58, Try.ntmps58
    go_wp2_with fail
    go_ret
    rw [← HWW.out]
    exact ⟨ret_bool HF.out.symm, HB.out⟩
  · obtain ⟨ok, hok⟩ : ∃ ok, ok = bkOk s x.i k := ⟨_, rfl⟩
    obtain ⟨vl, hvl⟩ : ∃ vl, vl = bkV s x.i k := ⟨_, rfl⟩
    have hcall := implBuildKey_any s x.i k W S S' a c a' c' a3 c3 S0.out I0.out
    unfold BkPost at hcall
    rw [← hok, ← hvl] at hcall
    have HC := Lib.hid hcall
    have HF := Lib.hid (show r = (ok && decide (vl = yv)) by rw [HR.out, HKK.out, hok, hvl]; rfl)
    clear hok hvl hcall
    go_enter Try.func58, Try.ntmps58
    go_wp2_with fail
    rw [← HWW.out]
    clear p0 p1 p2 p3 p4 p5 d2
    refine HC.out.mono ?_
    rintro e w1 ⟨rfl, hb⟩
    have HB1 := Lib.hid (HB.out.trans (hb.mono HB.out.size))
    have d1 := (hb.cell (p := ⟨bv, ov + k, none⟩) HBV.out).trans HD1.out
    obtain ⟨p0, p1, p2, p3, p4, p5⟩ := (HP.out.below hb HP.out.lt).six
    clear hb
    cases ok
    · go_wp2_with fail
      go_ret
      exact ⟨ret_bool HF.out.symm, HB1.out⟩
    · go_wp2_with fail
      go_ret
      exact ⟨ret_bool (by rw [HF.out]; simp only [eq_dec, Bool.true_and]), HB1.out⟩

theorem cntL_snoc {l : List Tr} {i : Nat} (h : i < l.length) (k : Nat) : cntL (l.take (i + 1)) k = cntL (l.take i) k + (if l[i].k = (k : Int) then 1 else 0) := by
  unfold cntL
  rw [List.take_succ_eq_append_getElem h, List.filter_append, List.length_append]
  congr 1
  rw [List.filter_cons]
  by_cases hk : l[i].k = (k : Int)
  · rw [if_pos (by simpa using hk), if_pos hk]; rfl
  · rw [if_neg (by simpa using hk), if_neg hk]; rfl
theorem cntL_le (l : List Tr) (k : Nat) : cntL l k ≤ l.length := List.length_filter_le _ _

set_option maxRecDepth 100000 in
set_option maxHeartbeats 4000000 in
theorem isTraced_any (s : Sh) (x : St) (k : Nat) (w : World) (S' : Nat → Prop) (a : Option Addr) (c : Nat) (a' : Option Addr) (c' : Nat) (a1 : Option Addr) (c1 : Nat) (a2 : Option Addr) (c2 : Nat) (a3 : Option Addr) (c3 : Nat) (a4 : Option Addr) (c4 : Nat) (hx : StAt w S' x a1 c1 a2 c2 a3 c3 a4 c4) (hk : k < s.m.length) (hf : x.fitN s.m.length) (hto : trsOk x.t = true) :
    Calls Try.prog 60 #[.agg #[.slice a s.m.length c, .slice a' s.t.length c', .slice a1 x.v.length c1, .slice a2 x.b.length c2, .slice a3 x.i.length c3, .slice a4 x.t.length c4], .int .i64 k] w fun e w' => e = .returned (.bool (trcK x k)) ∧ Below w.heap.size w w' := by
  obtain ⟨⟨n1, n2⟩, n3⟩ := hf
  have hl60 := (trsOk_mem hto).1
  obtain ⟨bv, ov, hav, hbv, cv⟩ := ints_cell hx.1 (show k < x.v.length by omega)
  obtain ⟨bb, ob, hab, hbb, cb⟩ := bools_cell hx.2.1 (show k < x.b.length by omega)
  subst hav hab
  have hkv : (k : Int) < x.v.length := by omega
  have hkb : (k : Int) < x.b.length := by omega
  have hk0 : (0 : Int) ≤ k := by omega
  have hvl : x.v.length ≤ 9223372036854775807 := hx.lens.1.1
  have hbl : x.b.length ≤ 9223372036854775807 := hx.lens.1.2
  obtain ⟨W, hW⟩ : ∃ W, W = w.alloc (.cells #[.slice a s.m.length c, .slice a' s.t.length c', .slice (some ⟨bv, ov, none⟩) x.v.length c1, .slice (some ⟨bb, ob, none⟩) x.b.length c2, .slice a3 x.i.length c3, .slice a4 x.t.length c4] 83) := ⟨_, rfl⟩
  have HWW := Lib.hid hW
  have hb : Below w.heap.size w W := by rw [hW]; exact (Below.refl w.heap.size w).alloc (Nat.le_refl _) _
  have HB := Lib.hid hb
  have HP := Lib.hid (show Blk W w.heap.size 83 #[.slice a s.m.length c, .slice a' s.t.length c', .slice (some ⟨bv, ov, none⟩) x.v.length c1, .slice (some ⟨bb, ob, none⟩) x.b.length c2, .slice a3 x.i.length c3, .slice a4 x.t.length c4] by rw [hW]; exact Blk.new w 83 #[.slice a s.m.length c, .slice a' s.t.length c', .slice (some ⟨bv, ov, none⟩) x.v.length c1, .slice (some ⟨bb, ob, none⟩) x.b.length c2, .slice a3 x.i.length c3, .slice a4 x.t.length c4])
  have T0 := Lib.hid (show TrsAt W S' x.t a4 c4 by rw [hW]; exact hx.2.2.2.alloc _)
  obtain ⟨p0, p1, p2, p3, p4, p5⟩ := HP.out.six
  rw [hW] at p0 p1 p2 p3 p4 p5
  obtain ⟨yv, hyv⟩ : ∃ y, y = x.v.getD k 0 := ⟨_, rfl⟩
  obtain ⟨yb, hyb⟩ : ∃ y, y = x.b.getD k false := ⟨_, rfl⟩
  rw [← hyv] at cv
  rw [← hyb] at cb
  have HD1 := Lib.hid ((hb.cell (p := ⟨bv, ov + k, none⟩) hbv).trans cv)
  have HD2 := Lib.hid ((hb.cell (p := ⟨bb, ob + k, none⟩) hbb).trans cb)
  have HBV := Lib.hid (Nat.lt_of_lt_of_le hbv hb.size)
  have HBB := Lib.hid (Nat.lt_of_lt_of_le hbb hb.size)
  have HT := Lib.hid (show ∀ t, trcT x k t = (!decide (t.k = (k : Int)) || (yb && decide (t.v = yv))) by rw [hyv, hyb]; exact fun _ => rfl)
  obtain ⟨r, hr⟩ : ∃ r, r = trcK x k := ⟨_, rfl⟩
  have HR := Lib.hid (show r = (x.t.all (trcT x k) && (decide (cntL x.t k = 1) || !yb)) by rw [hr, hyb]; rfl)
  rw [← hr]
  clear hx hb cv cb hyv hyb hr hbv hbb n1 n2 n3 hW hto
  go_enter Try.func60, Try.ntmps60
  go_wp2_with fail
  rw [← HWW.out]
  clear p0 p1 p2 p3 p4 p5
  go_loopw [12, 5] (fun i q wr => ∃ j : Nat, j ≤ x.t.length ∧ i = .int .i64 j ∧ q = .int .i64 (cntL (x.t.take j) k : Nat) ∧ (x.t.take j).all (trcT x k) = true ∧ Below W.heap.size W wr) (fun i _ _ => x.t.length - (intOf i).toNat)
  case atStart => exact ⟨0, by omega, rfl, rfl, rfl, Below.refl _ _⟩
  case round =>
    obtain ⟨j, hj, rfl, rfl, hq, hb⟩ := hrel
    have HQ := Lib.hid hq
    have HB2 := Lib.hid hb
    have P1 := Lib.hid (HP.out.below hb HP.out.lt)
    have d1 := (hb.cell (p := ⟨bv, ov + k, none⟩) HBV.out).trans HD1.out
    have d2 := (hb.cell (p := ⟨bb, ob + k, none⟩) HBB.out).trans HD2.out
    have hcl := cntL_le (x.t.take j) k
    have hcl2 : (x.t.take j).length ≤ 60 := by rw [List.length_take]; omega
    obtain ⟨cn, hcn⟩ : ∃ cn, cn = cntL (x.t.take j) k := ⟨_, rfl⟩
    have HCN := Lib.hid hcn
    rw [← hcn] at hcl ⊢
    clear hq hcn
    by_cases hlt : j < x.t.length
    · obtain ⟨b, o, at_, ct, rfl, hbl2, _, e0, e1, e2, _, _, _⟩ := T0.out.get hb hlt
      have HQS := Lib.hid (all_snocp (trcT x k) x.t j hlt)
      have HQF := Lib.hid (all_falsep (trcT x k) x.t j hlt)
      have HCS := Lib.hid (cntL_snoc hlt k)
      obtain ⟨t, ht⟩ : ∃ t, t = x.t[j] := ⟨_, rfl⟩
      rw [← ht] at e0 e1 e2 HQS HQF HCS
      have HTT := Lib.hid (HT.out t)
      have HBA := Lib.hid (HB2.out.alloc hb.size (.cells #[.int .i64 t.k, .slice at_ t.u.length ct, .int .i64 t.v] 25))
      have hoW : W.heap.size ≤ wr.heap.size := hb.size
      have PA := Lib.hid (P1.out.alloc (.cells #[.int .i64 t.k, .slice at_ t.u.length ct, .int .i64 t.v] 25))
      have BA := Lib.hid (Blk.new wr 25 #[.int .i64 t.k, .slice at_ t.u.length ct, .int .i64 t.v])
      have DA1 := Lib.hid ((HBA.out.cell (p := ⟨bv, ov + k, none⟩) HBV.out).trans HD1.out)
      have DA2 := Lib.hid ((HBA.out.cell (p := ⟨bb, ob + k, none⟩) HBB.out).trans HD2.out)
      clear ht hb d1 d2
      by_cases htk : t.k = (k : Int)
      · have hne : ((t.k != (k : Int)) : Bool) = false := by rw [htk]; simp
        have HCS1 := Lib.hid (show cntL (x.t.take (j + 1)) k = cn + 1 by rw [HCS.out, if_pos htk, HCN.out])
        have HT1 := Lib.hid (show trcT x k t = (yb && decide (t.v = yv)) by rw [HTT.out, decide_eq_true htk]; rfl)
        clear htk
        have d1 := DA1.out
        have d2 := DA2.out
        obtain ⟨p0, p1, p2, p3, p4, p5⟩ := PA.out.six
        obtain ⟨z0, z1, z2, -⟩ := BA.out.three
        cases yb
        · have HF := Lib.hid (show r = false by rw [HR.out, HQF.out (by rw [HT1.out]; rfl)]; rfl)
          go_wp2_with fail
          go_quiet (fail)
          go_wp2_with fail
          go_ret
          exact ⟨ret_bool HF.out.symm, HB.out.trans ((below_drewN HBA.out _).mono HB.out.size)⟩
        · by_cases hv : t.v = yv
          · have hne2 : ((t.v != yv) : Bool) = false := by rw [hv]; simp
            have HT2 := Lib.hid (show trcT x k t = true by rw [HT1.out, decide_eq_true hv]; rfl)
            clear hv
            go_wp2_with fail
            go_quiet (fail)
            go_wp2_with fail
            go_roundw
            case rel => exact ⟨j + 1, by omega, by go_num, by rw [HCS1.out]; go_num, by rw [HQS.out, HQ.out, HT2.out]; rfl, below_drewN HBA.out _⟩
            case measure => simp [intOf]; omega
          · have hne2 : ((t.v != yv) : Bool) = true := by simp [hv]
            have HF := Lib.hid (show r = false by rw [HR.out, HQF.out (by rw [HT1.out, decide_eq_false hv]; rfl)]; rfl)
            clear hv
            go_wp2_with fail
            go_quiet (fail)
            go_wp2_with fail
            go_ret
            exact ⟨ret_bool HF.out.symm, HB.out.trans ((below_drewN HBA.out _).mono HB.out.size)⟩
      · have hne : ((t.k != (k : Int)) : Bool) = true := by simp [htk]
        have HCS1 := Lib.hid (show cntL (x.t.take (j + 1)) k = cn by rw [HCS.out, if_neg htk, HCN.out]; rfl)
        have HT1 := Lib.hid (show trcT x k t = true by rw [HTT.out, decide_eq_false htk]; rfl)
        clear htk
        go_wp2_with fail
        go_roundw
        case rel => exact ⟨j + 1, by omega, by go_num, by rw [HCS1.out], by rw [HQS.out, HQ.out, HT1.out]; rfl, HBA.out⟩
        case measure => simp [intOf]; omega
    · have hq := HQ.out
      rw [List.take_of_length_le (by omega)] at hq
      have hc := HCN.out
      rw [List.take_of_length_le (by omega)] at hc
      have HF := Lib.hid (show r = (decide (cn = 1) || !yb) by rw [HR.out, hq, hc]; rfl)
      have HBE := Lib.hid (HB.out.trans (hb.mono HB.out.size))
      obtain ⟨p0, p1, p2, p3, p4, p5⟩ := P1.out.six
      clear hq hc hb
      by_cases h1 : cn = 1
      · subst h1
        go_wp2_with fail
        go_ret
        exact ⟨ret_bool (by rw [HF.out]; rfl), HBE.out⟩
      · have h2 : decide (cn = 1) = false := decide_eq_false h1
        have h3 : ((cn : Int) == 1) = false := by rw [eq_dec]; exact decide_eq_false (by omega)
        have h4 : decide ((cn : Int) = 1) = false := decide_eq_false (by omega)
        clear h1
        go_wp2_with fail
        go_ret
        exact ⟨ret_bool (by rw [HF.out, h2]; rfl), HBE.out⟩

end Go.Proofs.Ytjbggeeadodmpaa
/- impl.kept.isByInputs (written by wip/tools/gen_fitx.py) -/
namespace Go.Proofs.Ytjbggeeadodmpaa
open Go.RowKit

set_option maxRecDepth 100000 in
set_option maxHeartbeats 4000000 in
theorem isByInputs_any (s : Sh) (x : St) (t : Tr) (w : World) (S S' : Nat → Prop) (a : Option Addr) (c : Nat) (a' : Option Addr) (c' : Nat) (a1 : Option Addr) (c1 : Nat) (a2 : Option Addr) (c2 : Nat) (a3 : Option Addr) (c3 : Nat) (a4 : Option Addr) (c4 : Nat) (au : Option Addr) (cu : Nat) (h : ShAt w S s a c a' c') (hu : PrsAt w S' t.u au cu) (hok : t.ok = true) (hs : s.ok = true) :
    Calls Try.prog 62 #[.agg #[.slice a s.m.length c, .slice a' s.t.length c', .slice a1 x.v.length c1, .slice a2 x.b.length c2, .slice a3 x.i.length c3, .slice a4 x.t.length c4], .agg #[.int .i64 t.k, .slice au t.u.length cu, .int .i64 t.v]] w fun e w' => e = .returned (.bool (deepT s t)) ∧ Below w.heap.size w w' := by
  have hn10 := (Sh.ok_iff.1 hs).1
  have hup := Tr.ok_u hok
  have hul : t.u.length ≤ 9223372036854775807 := RwAt.len hu
  have HUP := Lib.hid hup
  have HBI := Lib.hid (ok_mem (backN_mem (n := s.m.length) fun p hp => (hup p hp).2))
  have HBL := Lib.hid (backN_len t.u s.m.length)
  obtain ⟨i0, hi, hz0, hz1, hz2⟩ := info_parts infoInt
  have hnb : s.m.length ≤ 10 := hn10
  have hmk : ∀ W : World, (Instr.makeSlice 26 (.int .i64 s.m.length) (.int .i64 s.m.length)).run Try.prog W = .ok (.slice (some ⟨W.heap.size, 0, none⟩) s.m.length s.m.length) (W.alloc (.cells (madeCells #[.int .i64 0] s.m.length) 3)) := fun W => by
    have h := run_make_rowN (P := Try.prog) 26 3 i0 _ Try.underlying26 hi hz0 .i64 .i64 s.m.length s.m.length (Nat.le_refl _) (by rw [hz2]; omega) (by omega) W
    rw [hz1, Nat.mul_one] at h
    exact h
  obtain ⟨W, hW⟩ : ∃ W, W = ((w.alloc (.cells #[.slice a s.m.length c, .slice a' s.t.length c', .slice a1 x.v.length c1, .slice a2 x.b.length c2, .slice a3 x.i.length c3, .slice a4 x.t.length c4] 83)).alloc (.cells #[.int .i64 t.k, .slice au t.u.length cu, .int .i64 t.v] 25)).alloc (.cells (madeCells #[.int .i64 0] s.m.length) 3) := ⟨_, rfl⟩
  have HWW := Lib.hid hW
  have S0 := Lib.hid (show ShAt W (fun b => S b ∧ b < w.heap.size) s a c a' c' by rw [hW]; exact ((h.lim.alloc _).alloc _).alloc _)
  have U0 := Lib.hid (show PrsAt W (fun b => S' b ∧ b < w.heap.size) t.u au cu by rw [hW]; exact ((hu.lim.alloc _).alloc _).alloc _)
  have B0 := Lib.hid (show Below w.heap.size w W by rw [hW]; exact (((Below.refl w.heap.size w).alloc (Nat.le_refl _) _).alloc (by simp) _).alloc (by simp <;> omega) _)
  have P0 := Lib.hid (show Blk W w.heap.size 83 #[.slice a s.m.length c, .slice a' s.t.length c', .slice a1 x.v.length c1, .slice a2 x.b.length c2, .slice a3 x.i.length c3, .slice a4 x.t.length c4] by rw [hW]; exact ((Blk.new w 83 _).alloc _).alloc _)
  have Q0 := Lib.hid (show Blk W (w.heap.size + 1) 25 #[.int .i64 t.k, .slice au t.u.length cu, .int .i64 t.v] by rw [hW]; have := (Blk.new (w.alloc (.cells #[.slice a s.m.length c, .slice a' s.t.length c', .slice a1 x.v.length c1, .slice a2 x.b.length c2, .slice a3 x.i.length c3, .slice a4 x.t.length c4] 83)) 25 #[.int .i64 t.k, .slice au t.u.length cu, .int .i64 t.v]).alloc (.cells (madeCells #[.int .i64 0] s.m.length) 3); simpa using this)
  have N0 := Lib.hid (show NumRow W (w.heap.size + 1 + 1) (.slice (some ⟨w.heap.size + 1 + 1, 0, none⟩) s.m.length s.m.length) (backN s.m.length (t.u.take 0)) by
    have := num_madeN ((w.alloc (.cells #[.slice a s.m.length c, .slice a' s.t.length c', .slice a1 x.v.length c1, .slice a2 x.b.length c2, .slice a3 x.i.length c3, .slice a4 x.t.length c4] 83)).alloc (.cells #[.int .i64 t.k, .slice au t.u.length cu, .int .i64 t.v] 25)) s.m.length (by omega)
    rw [show backN s.m.length (t.u.take 0) = List.replicate s.m.length 0 from rfl, hW]; simpa using this)
  have HWS := Lib.hid (show W.heap.size = w.heap.size + 1 + 1 + 1 by rw [hW]; simp)
  obtain ⟨p0, p1, p2, p3, p4, p5⟩ := P0.out.six
  obtain ⟨q0, q1, q2, -⟩ := Q0.out.three
  rw [hW] at p0 p1 p2 p3 p4 p5 q0 q1 q2
  obtain ⟨r, hr⟩ : ∃ r, r = deepT s t := ⟨_, rfl⟩
  have HR := Lib.hid (show r = (t.u.all (deepP s) && (bkOk s (backN s.m.length t.u) t.k && decide (bkV s (backN s.m.length t.u) t.k = t.v))) from hr)
  rw [← hr]
  clear h hu hup hok hs hr hW
  go_enter Try.func62, Try.ntmps62
  go_wp2_with fail
  rw [← HWW.out]
  clear hmk p0 p1 p2 p3 p4 p5 q0 q1 q2
  go_loopw [18] (fun i wr => ∃ k : Nat, k ≤ t.u.length ∧ i = .int .i64 k ∧ (t.u.take k).all (deepP s) = true ∧ NumRow wr (w.heap.size + 1 + 1) (.slice (some ⟨w.heap.size + 1 + 1, 0, none⟩) s.m.length s.m.length) (backN s.m.length (t.u.take k)) ∧ Fr (fun b => b = w.heap.size + 1 + 1) W wr) (fun i _ => t.u.length - (intOf i).toNat)
  case atStart => exact ⟨0, by omega, rfl, rfl, N0.out, Fr.of_below (Below.refl _ _)⟩
  case round =>
    obtain ⟨k, hk, rfl, hq, hn, hf⟩ := hrel
    have HQ := Lib.hid hq
    have HN := Lib.hid hn
    have HF := Lib.hid hf
    have S1 := Lib.hid (S0.out.fr hf (fun b hb e => by omega))
    have U1 := Lib.hid (U0.out.fr hf (fun b hb e => by omega))
    have P1 := Lib.hid (P0.out.fr hf (by omega))
    have Q1 := Lib.hid (Q0.out.fr hf (by omega))
    have hwr := hf.size
    have B1 := Lib.hid (show Below w.heap.size w wr from B0.out.trans ⟨hf.1, hf.2.1, hf.2.2.1, hf.2.2.2.1, fun b hb => hf.2.2.2.2 b (by have := HWS.out; omega) (by omega)⟩)
    clear hq hn hf
    by_cases hlt : k < t.u.length
    · obtain ⟨b, o, hau, hbl, _, e0, e1, _, _⟩ := PrsAt.get U1.out (Below.refl _ _) hlt
      subst hau
      have hpk := HUP.out t.u[k] (List.getElem_mem hlt)
      have HBS := Lib.hid (backN_snoc (n := s.m.length) hlt)
      have HQS := Lib.hid (all_snocp (deepP s) t.u k hlt)
      have HQF := Lib.hid (all_falsep (deepP s) t.u k hlt)
      obtain ⟨p, hp⟩ : ∃ p, p = t.u[k] := ⟨_, rfl⟩
      rw [← hp] at e0 e1 HBS HQS HQF hpk
      obtain ⟨y1, y2⟩ := p
      simp only at e0 e1 HBS hpk
      obtain ⟨⟨h0, h9⟩, h2, _⟩ := hpk
      obtain ⟨q, rfl⟩ : ∃ q : Nat, y1 = q := ⟨y1.toNat, by omega⟩
      rw [Int.toNat_natCast] at HBS
      have hqi : (0 : Int) ≤ q := by omega
      have HDP := Lib.hid (show deepP s ((q : Int), y2) = (!s.mdI q && (decide ((q : Int) < s.m.length) || decide (y2 = 0))) from rfl)
      have SA := Lib.hid (S1.out.alloc (.cells #[.int .i64 q, .int .i64 y2] 63))
      have PA := Lib.hid (P1.out.alloc (.cells #[.int .i64 q, .int .i64 y2] 63))
      have NA := Lib.hid (show NumRow (wr.alloc (.cells #[.int .i64 q, .int .i64 y2] 63)) _ _ _ from World.ownsRow.alloc HN.out (.cells #[.int .i64 q, .int .i64 y2] 63))
      have BA := Lib.hid (Blk.new wr 63 #[.int .i64 q, .int .i64 y2])
      have BW := Lib.hid (B1.out.alloc B1.out.size (.cells #[.int .i64 q, .int .i64 y2] 63))
      have FA := Lib.hid (HF.out.trans (Fr.of_below (D := fun b => b = w.heap.size + 1 + 1) ((Below.refl wr.heap.size wr).alloc (Nat.le_refl _) (.cells #[.int .i64 q, .int .i64 y2] 63))) (fun b hb => .inl hb))
      obtain ⟨p0, p1, p2, p3, p4, p5⟩ := PA.out.six
      obtain ⟨b0, b1, -⟩ := BA.out.two
      clear hp h0 h9
      go_wp2_with fail
      refine (isMade_any s _ _ a c a' c' q SA.out).mono ?_
      rintro e w1 ⟨rfl, hb⟩
      have S2 := Lib.hid (SA.out.below hb)
      have P2 := Lib.hid (PA.out.below hb PA.out.lt)
      have N2 := Lib.hid (NumRow.below NA.out hb)
      have BX := Lib.hid (BA.out.below hb BA.out.lt)
      have BW2 := Lib.hid (BW.out.trans (hb.mono BW.out.size))
      have F2 := Lib.hid (FA.out.trans (Fr.of_below (D := fun b => b = w.heap.size + 1 + 1) hb) (fun b hb => .inl hb))
      clear hb p0 p1 p2 p3 p4 p5 b0 b1
      cases hmd : s.mdI (q : Int)
      · have HMD := Lib.hid hmd
        obtain ⟨p0, p1, p2, p3, p4, p5⟩ := P2.out.six
        obtain ⟨b0, b1, -⟩ := BX.out.two
        clear hmd
        go_wp2_with fail
        refine (hasKey_any s _ _ a c a' c' q S2.out).mono ?_
        rintro e w2 ⟨rfl, hb⟩
        have P3 := Lib.hid (P2.out.below hb P2.out.lt)
        have N3 := Lib.hid (NumRow.below N2.out hb)
        have BX3 := Lib.hid (BX.out.below hb BX.out.lt)
        have BW3 := Lib.hid (BW2.out.trans (hb.mono BW2.out.size))
        have F3 := Lib.hid (F2.out.trans (Fr.of_below (D := fun b => b = w.heap.size + 1 + 1) hb) (fun b hb => .inl hb))
        clear hb p0 p1 p2 p3 p4 p5 b0 b1
        obtain ⟨b0, b1, -⟩ := BX3.out.two
        by_cases hkn : q < s.m.length
        · rw [decide_eq_true (show (0 : Int) ≤ q ∧ (q : Int) < s.m.length by omega)]
          have hbl3 := backN_len (t.u.take k) s.m.length
          have hki : (q : Int) < s.m.length := by omega
          obtain ⟨c0, f0⟩ := N3.out.cellX q (by rw [hbl3]; exact hkn)
          obtain ⟨y, hy⟩ : ∃ y, y = (backN s.m.length (t.u.take k))[q]'(by rw [hbl3]; exact hkn) := ⟨_, rfl⟩
          rw [← hy] at c0
          have HS := Lib.hid (show NumRow (w2.setCell ⟨w.heap.size + 1 + 1, q, none⟩ (.int .i64 y2)) (w.heap.size + 1 + 1) (.slice (some ⟨w.heap.size + 1 + 1, 0, none⟩) s.m.length s.m.length) (backN s.m.length (t.u.take (k + 1))) by
            have := NumRow.set_ (g := w.heap.size + 1 + 1) (n := s.m.length) (cap := s.m.length) (by have := N3.out; exact this) q y2
            rw [← HBS.out] at this
            exact this)
          have HF4 := Lib.hid (F3.out.set' ⟨w.heap.size + 1 + 1, q, none⟩ rfl (.int .i64 y2))
          have HD := Lib.hid (show deepP s ((q : Int), y2) = true by rw [HDP.out, HMD.out, decide_eq_true hki]; rfl)
          clear hy hbl3 hkn
          go_wp2_with fail
          go_roundw
          case rel => exact ⟨k + 1, by omega, by go_num, by rw [HQS.out, HQ.out, HD.out]; rfl, HS.out, HF4.out⟩
          case measure => simp [intOf]; omega
        · rw [decide_eq_false (show ¬ ((0 : Int) ≤ q ∧ (q : Int) < s.m.length) by omega)]
          have HE := Lib.hid (show backN s.m.length (t.u.take (k + 1)) = backN s.m.length (t.u.take k) by rw [HBS.out]; exact List.set_eq_of_length_le (by rw [backN_len]; omega))
          have hnk : decide ((q : Int) < s.m.length) = false := decide_eq_false (by omega)
          by_cases hy2 : y2 = 0
          · have HD := Lib.hid (show deepP s ((q : Int), y2) = true by rw [HDP.out, HMD.out, decide_eq_true hy2]; simp)
            have hne : ((y2 != 0) : Bool) = false := by rw [hy2]; rfl
            have hne2 : (((0 : Int) != 0) : Bool) = false := rfl
            clear hnk hkn hy2
            go_wp2_with fail
            go_roundw
            case rel => exact ⟨k + 1, by omega, by go_num, by rw [HQS.out, HQ.out, HD.out]; rfl, by rw [HE.out]; exact N3.out, F3.out⟩
            case measure => simp [intOf]; omega
          · have HRF := Lib.hid (show r = false by rw [HR.out, HQF.out (by rw [HDP.out, HMD.out, hnk, decide_eq_false hy2]; rfl)]; rfl)
            have hne : ((y2 != 0) : Bool) = true := by simp [hy2]
            clear hnk hkn hy2
            go_wp2_with fail
            go_ret
            exact ⟨ret_bool HRF.out.symm, BW3.out⟩
      · have HRF := Lib.hid (show r = false by rw [HR.out, HQF.out (by rw [HDP.out, hmd]; rfl)]; rfl)
        clear hmd
        go_wp2_with fail
        go_ret
        exact ⟨ret_bool HRF.out.symm, BW2.out⟩
    · have hq := HQ.out
      rw [List.take_of_length_le (by omega)] at hq
      have hn := HN.out
      rw [List.take_of_length_le (by omega)] at hn
      obtain ⟨av, cv, he, hia⟩ := hn.at HBI.out
      rw [HBL.out] at he
      simp only [Value.slice.injEq] at he
      obtain ⟨rfl, -, rfl⟩ := he
      obtain ⟨ok, hok⟩ : ∃ ok, ok = bkOk s (backN s.m.length t.u) t.k := ⟨_, rfl⟩
      obtain ⟨vl, hvl⟩ : ∃ vl, vl = bkV s (backN s.m.length t.u) t.k := ⟨_, rfl⟩
      have hcall := implBuildKey_any s (backN s.m.length t.u) t.k wr _ _ a c a' c' (some ⟨w.heap.size + 1 + 1, 0, none⟩) s.m.length S1.out hia
      unfold BkPost at hcall
      rw [HBL.out, ← hok, ← hvl] at hcall
      have HC := Lib.hid hcall
      have HRF := Lib.hid (show r = (ok && decide (vl = t.v)) by rw [HR.out, hq, hok, hvl]; rfl)
      obtain ⟨p0, p1, p2, p3, p4, p5⟩ := P1.out.six
      obtain ⟨q0, q1, q2, -⟩ := Q1.out.three
      clear hq hn hia hok hvl hcall
      go_wp2_with fail
      refine HC.out.mono ?_
      rintro e w1 ⟨rfl, hb⟩
      have B2 := Lib.hid (B1.out.trans (hb.mono B1.out.size))
      have Q2 := Lib.hid (Q1.out.below hb Q1.out.lt)
      clear hb p0 p1 p2 p3 p4 p5 q0 q1 q2
      obtain ⟨q0, q1, q2, -⟩ := Q2.out.three
      cases ok
      · go_wp2_with fail
        go_ret
        exact ⟨ret_bool HRF.out.symm, B2.out⟩
      · go_wp2_with fail
        go_ret
        exact ⟨ret_bool (by rw [HRF.out]; simp only [eq_dec, Bool.true_and]), B2.out⟩
end Go.Proofs.Ytjbggeeadodmpaa
