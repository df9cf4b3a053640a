/- impl.reckon with whatever fetches -/
import Derived.Test.YtklmpagpkeffjaaVals
import Derived.Test.YtklmpagpkeffjaaTree
import Derived.Deep.RegionWith
import Derived.Shelf.Abstract
namespace Go.Proofs.Ytklmpagpkeffjaa
open Go.RowKit

/-- Of what was there only blocks that meet D may have turned. -/
def Fr (D : Nat → Prop) (w w' : World) : Prop := w'.os = w.os ∧ w'.tape = w.tape ∧ w'.output = w.output ∧ w.heap.size ≤ w'.heap.size ∧ ∀ b, b < w.heap.size → ¬ D b → w'.heap[b]? = w.heap[b]?
theorem Fr.of_below {D : Nat → Prop} {w w' : World} (h : Below w.heap.size w w') : Fr D w w' := ⟨h.os, h.tape, h.output, h.size, fun b hb _ => h.block b hb⟩
theorem Fr.trans {D D' : Nat → Prop} {w w1 w2 : World} (h : Fr D w w1) (k : Fr D' w1 w2) (hd : ∀ b, D' b → D b ∨ w.heap.size ≤ b) : Fr D w w2 :=
  ⟨k.1.trans h.1, k.2.1.trans h.2.1, k.2.2.1.trans h.2.2.1, Nat.le_trans h.2.2.2.1 k.2.2.2.1, fun b hb hn => (k.2.2.2.2 b (Nat.lt_of_lt_of_le hb h.2.2.2.1) (fun hd' => by
    rcases hd b hd' with h1 | h1
    · exact hn h1
    · omega)).trans (h.2.2.2.2 b hb hn)⟩
theorem Fr.size {D : Nat → Prop} {w w' : World} (h : Fr D w w') : w.heap.size ≤ w'.heap.size := h.2.2.2.1

/-- The function f, with what it has captured, fetches: key by key it gives vs, and keeps track by I of the keys so far. -/
structure Fetcher (f : FuncId) (caps : Array Value) (vs : Int → Int) (I : List Int → (Nat → Prop) → World → Prop) : Prop where
  call : ∀ ks D w k, 0 ≤ k → k ≤ 9 → ks.length ≤ 100 → I ks D w → Calls Try.prog f (#[.int .i64 k] ++ caps) w fun e w' => e = .returned (.int .i64 (vs k)) ∧ ∃ D', I (ks ++ [k]) D' w' ∧ Fr D w w' ∧ ∀ b, D' b → D b ∨ w.heap.size ≤ b
  below : ∀ ks D w w', I ks D w → Below w.heap.size w w' → I ks D w'
  bd : ∀ k, 0 ≤ vs k ∧ vs k ≤ 96
  lt : ∀ ks D w, I ks D w → ∀ b, D b → b < w.heap.size
  enters : ∀ args w, (callFunc f args).run Try.prog w = .ok (.enter f args) w

/-- What reckon leaves. -/
def RkPost (I : List Int → (Nat → Prop) → World → Prop) (ks : List Int) (D : Nat → Prop) (w : World) (v : Int) (new : List Int) (e : Ending) (w' : World) : Prop :=
  e = .returned (.int .i64 v) ∧ ∃ D', I (ks ++ new) D' w' ∧ Fr D w w' ∧ ∀ b, D' b → D b ∨ w.heap.size ≤ b

def RkT (f : FuncId) (caps : Array Value) (vs : Int → Int) (I : List Int → (Nat → Prop) → World → Prop) (t : T) : Prop := ∀ (w : World) (S : Nat → Prop) (a : Option Addr) (c : Nat) (ks : List Int) (D : Nat → Prop),
  t.fit = true → AtS w S t.ps a c → (∀ b, S b → b < w.heap.size ∧ ¬ D b) → I ks D w → ks.length + t.nodes ≤ 100 →
  Calls Try.prog 105 #[.agg #[.int .i64 t.k, .int .i64 t.n, .slice a t.ps.length c], .func (.func f) #[] caps] w (RkPost I ks D w (t.val vs) (t.kys vs))

theorem AtS.fr {w w' : World} {S D : Nat → Prop} {ps : List T} {a : Option Addr} {c : Nat} (h : AtS w S ps a c) (hf : Fr D w w') (hS : ∀ b, S b → ¬ D b) : AtS w' S ps a c :=
  h.keep (fun _ h => h) (fun b hb hl => hf.2.2.2.2 b hl (hS b hb))
theorem Blk.fr {w w' : World} {D : Nat → Prop} {g : Nat} {t : TypeId} {cs : Array Value} (h : Blk w g t cs) (hf : Fr D w w') (hg : ¬ D g) : Blk w' g t cs := (hf.2.2.2.2 g h.lt hg).trans h

theorem reck_0 {f : FuncId} {caps : Array Value} {vs : Int → Int} {I : List Int → (Nat → Prop) → World → Prop} (H : Fetcher f caps vs I) (n : Int) : RkT f caps vs I (.mk 0 n []) := by
  intro w S a c ks D hf hat hS hI hle
  simp only [T.k, T.n, T.ps, List.length_nil] at *
  have HI := Lib.hid (H.below ks D w _ hI ((Below.refl _ _).alloc (Nat.le_refl _) (.cells #[.int .i64 0, .int .i64 n, .slice a 0 c] 42)))
  clear hat hI
  go_enter Try.func105, Try.ntmps105
  go_wp2_with fail
  go_ret
  rw [val_0, kys_0]
  exact ⟨rfl, D, by rw [List.append_nil]; exact HI.out, .of_below ((Below.refl _ _).alloc (Nat.le_refl _) _), fun b hb => .inl hb⟩

set_option maxRecDepth 100000 in
theorem reck_1 {f : FuncId} {caps : Array Value} {vs : Int → Int} {I : List Int → (Nat → Prop) → World → Prop} (H : Fetcher f caps vs I) (n : Int) (h0 : 0 ≤ n) (h1 : n ≤ 9) : RkT f caps vs I (.mk 1 n []) := by
  intro w S a c ks D hf hat hS hI hle
  have hk : ks.length ≤ 100 := by simp [T.nodes] at hle; omega
  simp only [T.k, T.n, T.ps, List.length_nil] at *
  have HI := Lib.hid (H.below ks D w _ hI ((Below.refl _ _).alloc (Nat.le_refl _) (.cells #[.int .i64 1, .int .i64 n, .slice a 0 c] 42)))
  have HH := Lib.hid H
  have eg := H.enters
  clear hat hI H hS hle
  go_enter Try.func105, Try.ntmps105
  go_wp2_with fail
  refine (HH.out.call ks D _ n h0 h1 hk HI.out).mono ?_
  rintro e w1 ⟨rfl, D', hI', hfr, hd⟩
  have HF := Lib.hid (And.intro hI' (And.intro hfr hd))
  clear hI' hfr hd HI
  go_wp2_with fail
  go_ret
  rw [val_1, kys_1]
  exact ⟨rfl, D', HF.out.1, (Fr.of_below ((Below.refl _ _).alloc (Nat.le_refl _) _)).trans HF.out.2.1 (fun b hb => .inl hb), fun b hb => (HF.out.2.2 b hb).imp id (fun h => by simp at h; omega)⟩

set_option maxRecDepth 100000 in
set_option maxHeartbeats 1000000 in
theorem reck_2 {f : FuncId} {caps : Array Value} {vs : Int → Int} {I : List Int → (Nat → Prop) → World → Prop} (H : Fetcher f caps vs I) (x y : T) (fx : x.fit = true) (fy : y.fit = true) (hx : RkT f caps vs I x) (hy : RkT f caps vs I y) : RkT f caps vs I (.mk 2 0 [x, y]) := by
  intro w S a c ks D hf hat hS hI hle
  simp only [T.k, T.n, T.ps, List.length_cons, List.length_nil, T.nodes, nodesL] at *
  have hD := H.lt ks D w hI
  have HI := Lib.hid (H.below ks D w _ hI ((Below.refl _ _).alloc (Nat.le_refl _) (.cells #[.int .i64 2, .int .i64 0, .slice a 2 c] 42)))
  have HA := Lib.hid (hat.alloc (.cells #[.int .i64 2, .int .i64 0, .slice a 2 c] 42))
  have HB := Lib.hid (Blk.new w 42 #[.int .i64 2, .int .i64 0, .slice a 2 c])
  have HX := Lib.hid hx
  have HY := Lib.hid hy
  have HH := Lib.hid H
  have HS := Lib.hid hS
  have HD := Lib.hid hD
  obtain ⟨b, o, a0, c0, rfl, hbl, hSb, e0, e1, e2, hp, _, _⟩ := hat.elem (w' := w.alloc (.cells #[.int .i64 2, .int .i64 0, .slice a 2 c] 42)) ((Below.refl _ _).alloc (Nat.le_refl _) _) (i := 0) (by simp)
  simp only [Nat.zero_mul, Nat.add_zero, List.getElem_cons_zero] at e0 e1 e2 hp
  have HP := Lib.hid hp
  have hk1 := (T.kys_bd vs x fx).2
  clear hat hI H hS hD hx hy hp hf
  go_enter Try.func105, Try.ntmps105
  go_wp2_with fail
  refine (HX.out _ S a0 c0 ks D fx HP.out (fun b hb => ⟨by have := (HS.out b hb).1; simp; omega, (HS.out b hb).2⟩) HI.out (by omega)).mono ?_
  rintro e w1 ⟨rfl, D1, hI1, hfr, hd1⟩
  obtain ⟨v1, hv1⟩ : ∃ v1, v1 = x.val vs := ⟨_, rfl⟩
  have hvb1 := T.val_bd vs HH.out.bd x fx
  rw [← hv1] at hvb1 ⊢
  have HV1 := Lib.hid hv1
  have hA1 := HA.out.fr hfr (fun b hb => (HS.out b hb).2)
  have hB1 := HB.out.fr hfr (fun h => by have := HD.out _ h; omega)
  have hsz := hfr.size
  simp only [World.size_alloc] at hsz hd1
  have H1 := Lib.hid (And.intro hI1 (And.intro hfr hd1))
  obtain ⟨x0, x1, x2, f0, f1, f2⟩ := hB1.three
  obtain ⟨b', o', a1, c1, he, hbl1, _, e0, e1, e2, hp, _, _⟩ := hA1.elem (w' := w1) (Below.refl _ _) (i := 1) (by simp)
  injection he with he
  injection he with he1 he2
  subst he1 he2
  simp only [Nat.one_mul, List.getElem_cons_succ, List.getElem_cons_zero] at e0 e1 e2 hp
  have HP1 := Lib.hid hp
  clear hp hA1 hB1 hfr hd1 hI1 hv1 HX HA HB HI HP
  go_wp2_with fail
  refine (HY.out _ S a1 c1 _ D1 fy HP1.out (fun b hb => ⟨by have := (HS.out b hb).1; omega, fun h => ?_⟩) H1.out.1 (by simp only [List.length_append]; omega)).mono ?_
  · rcases H1.out.2.2 b h with h | h
    · exact (HS.out b hb).2 h
    · have := (HS.out b hb).1; omega
  rintro e w2 ⟨rfl, D2, hI2, hfr, hd2⟩
  obtain ⟨v2, hv2⟩ : ∃ v2, v2 = y.val vs := ⟨_, rfl⟩
  have hvb2 := T.val_bd vs HH.out.bd y fy
  rw [← hv2] at hvb2 ⊢
  have HV2 := Lib.hid hv2
  have H2 := Lib.hid (And.intro hI2 (And.intro hfr hd2))
  clear hfr hd2 hI2 hv2 x0 x1 x2 f0 f1 f2 e0 e1 e2
  go_wp2_with fail
  go_ret
  rw [val_2, kys_2, ← HV1.out, ← HV2.out]
  exact ⟨rfl, D2, by rw [← List.append_assoc]; exact H2.out.1, ((Fr.of_below ((Below.refl _ _).alloc (Nat.le_refl _) _)).trans H1.out.2.1 (fun b hb => .inl hb)).trans H2.out.2.1 (fun b hb => (H1.out.2.2 b hb).imp id (fun h => by omega)), fun b hb => by
    rcases H2.out.2.2 b hb with h | h
    · exact (H1.out.2.2 b h).imp id (fun h => by omega)
    · exact .inr (by omega)⟩

set_option maxRecDepth 100000 in
set_option maxHeartbeats 1000000 in
theorem reck_3 {f : FuncId} {caps : Array Value} {vs : Int → Int} {I : List Int → (Nat → Prop) → World → Prop} (H : Fetcher f caps vs I) (x y : T) (fx : x.fit = true) (fy : y.fit = true) (hx : RkT f caps vs I x) (hy : RkT f caps vs I y) : RkT f caps vs I (.mk 3 0 [x, y]) := by
  intro w S a c ks D hf hat hS hI hle
  simp only [T.k, T.n, T.ps, List.length_cons, List.length_nil, T.nodes, nodesL] at *
  have hD := H.lt ks D w hI
  have HI := Lib.hid (H.below ks D w _ hI ((Below.refl _ _).alloc (Nat.le_refl _) (.cells #[.int .i64 3, .int .i64 0, .slice a 2 c] 42)))
  have HA := Lib.hid (hat.alloc (.cells #[.int .i64 3, .int .i64 0, .slice a 2 c] 42))
  have HB := Lib.hid (Blk.new w 42 #[.int .i64 3, .int .i64 0, .slice a 2 c])
  have HX := Lib.hid hx
  have HY := Lib.hid hy
  have HH := Lib.hid H
  have HS := Lib.hid hS
  have HD := Lib.hid hD
  obtain ⟨b, o, a0, c0, rfl, hbl, hSb, e0, e1, e2, hp, _, _⟩ := hat.elem (w' := w.alloc (.cells #[.int .i64 3, .int .i64 0, .slice a 2 c] 42)) ((Below.refl _ _).alloc (Nat.le_refl _) _) (i := 0) (by simp)
  simp only [Nat.zero_mul, Nat.add_zero, List.getElem_cons_zero] at e0 e1 e2 hp
  have HP := Lib.hid hp
  have hk1 := (T.kys_bd vs x fx).2
  clear hat hI H hS hD hx hy hp hf
  go_enter Try.func105, Try.ntmps105
  go_wp2_with fail
  refine (HX.out _ S a0 c0 ks D fx HP.out (fun b hb => ⟨by have := (HS.out b hb).1; simp; omega, (HS.out b hb).2⟩) HI.out (by omega)).mono ?_
  rintro e w1 ⟨rfl, D1, hI1, hfr, hd1⟩
  obtain ⟨v1, hv1⟩ : ∃ v1, v1 = x.val vs := ⟨_, rfl⟩
  have hvb1 := T.val_bd vs HH.out.bd x fx
  rw [← hv1] at hvb1 ⊢
  have HV1 := Lib.hid hv1
  have hA1 := HA.out.fr hfr (fun b hb => (HS.out b hb).2)
  have hB1 := HB.out.fr hfr (fun h => by have := HD.out _ h; omega)
  have hsz := hfr.size
  simp only [World.size_alloc] at hsz hd1
  have H1 := Lib.hid (And.intro hI1 (And.intro hfr hd1))
  obtain ⟨x0, x1, x2, f0, f1, f2⟩ := hB1.three
  obtain ⟨b', o', a1, c1, he, hbl1, _, e0, e1, e2, hp, _, _⟩ := hA1.elem (w' := w1) (Below.refl _ _) (i := 1) (by simp)
  injection he with he
  injection he with he1 he2
  subst he1 he2
  simp only [Nat.one_mul, List.getElem_cons_succ, List.getElem_cons_zero] at e0 e1 e2 hp
  have HP1 := Lib.hid hp
  clear hp hA1 hB1 hfr hd1 hI1 hv1 HX HA HB HI HP
  go_wp2_with fail
  refine (HY.out _ S a1 c1 _ D1 fy HP1.out (fun b hb => ⟨by have := (HS.out b hb).1; omega, fun h => ?_⟩) H1.out.1 (by simp only [List.length_append]; omega)).mono ?_
  · rcases H1.out.2.2 b h with h | h
    · exact (HS.out b hb).2 h
    · have := (HS.out b hb).1; omega
  rintro e w2 ⟨rfl, D2, hI2, hfr, hd2⟩
  obtain ⟨v2, hv2⟩ : ∃ v2, v2 = y.val vs := ⟨_, rfl⟩
  have hvb2 := T.val_bd vs HH.out.bd y fy
  rw [← hv2] at hvb2 ⊢
  have HV2 := Lib.hid hv2
  have H2 := Lib.hid (And.intro hI2 (And.intro hfr hd2))
  clear hfr hd2 hI2 hv2 x0 x1 x2 f0 f1 f2 e0 e1 e2
  have hm0 : 0 ≤ v1 * v2 := Int.mul_nonneg hvb1.1 hvb2.1
  have hm1 : v1 * v2 ≤ 96 * 96 := Int.mul_le_mul hvb1.2 hvb2.2 hvb2.1 (by omega)
  have hm2 : v1 * v2 ≤ 9216 := hm1
  clear hm1
  go_wp2_with fail
  go_ret
  rw [val_3, kys_3, ← HV1.out, ← HV2.out]
  exact ⟨rfl, D2, by rw [← List.append_assoc]; exact H2.out.1, ((Fr.of_below ((Below.refl _ _).alloc (Nat.le_refl _) _)).trans H1.out.2.1 (fun b hb => .inl hb)).trans H2.out.2.1 (fun b hb => (H1.out.2.2 b hb).imp id (fun h => by omega)), fun b hb => by
    rcases H2.out.2.2 b hb with h | h
    · exact (H1.out.2.2 b h).imp id (fun h => by omega)
    · exact .inr (by omega)⟩

set_option maxRecDepth 100000 in
set_option maxHeartbeats 1000000 in
theorem reck_4 {f : FuncId} {caps : Array Value} {vs : Int → Int} {I : List Int → (Nat → Prop) → World → Prop} (H : Fetcher f caps vs I) (x y z : T) (fx : x.fit = true) (fy : y.fit = true) (fz : z.fit = true) (hx : RkT f caps vs I x) (hy : RkT f caps vs I y) (hz : RkT f caps vs I z) : RkT f caps vs I (.mk 4 0 [x, y, z]) := by
  intro w S a c ks D hf hat hS hI hle
  simp only [T.k, T.n, T.ps, List.length_cons, List.length_nil, T.nodes, nodesL] at *
  have hD := H.lt ks D w hI
  have HI := Lib.hid (H.below ks D w _ hI ((Below.refl _ _).alloc (Nat.le_refl _) (.cells #[.int .i64 4, .int .i64 0, .slice a 3 c] 42)))
  have HA := Lib.hid (hat.alloc (.cells #[.int .i64 4, .int .i64 0, .slice a 3 c] 42))
  have HB := Lib.hid (Blk.new w 42 #[.int .i64 4, .int .i64 0, .slice a 3 c])
  have HX := Lib.hid hx
  have HY := Lib.hid hy
  have HZ := Lib.hid hz
  have HH := Lib.hid H
  have HS := Lib.hid hS
  have HD := Lib.hid hD
  obtain ⟨b, o, a0, c0, rfl, hbl, hSb, e0, e1, e2, hp, _, _⟩ := hat.elem (w' := w.alloc (.cells #[.int .i64 4, .int .i64 0, .slice a 3 c] 42)) ((Below.refl _ _).alloc (Nat.le_refl _) _) (i := 0) (by simp)
  simp only [Nat.zero_mul, Nat.add_zero, List.getElem_cons_zero] at e0 e1 e2 hp
  have HP := Lib.hid hp
  have hk1 := (T.kys_bd vs x fx).2
  clear hat hI H hS hD hx hy hz hp hf
  go_enter Try.func105, Try.ntmps105
  go_wp2_with fail
  refine (HX.out _ S a0 c0 ks D fx HP.out (fun b hb => ⟨by have := (HS.out b hb).1; simp; omega, (HS.out b hb).2⟩) HI.out (by omega)).mono ?_
  rintro e w1 ⟨rfl, D1, hI1, hfr, hd1⟩
  obtain ⟨v1, hv1⟩ : ∃ v1, v1 = x.val vs := ⟨_, rfl⟩
  have hvb1 := T.val_bd vs HH.out.bd x fx
  rw [← hv1] at hvb1 ⊢
  have HV1 := Lib.hid hv1
  have hA1 := HA.out.fr hfr (fun b hb => (HS.out b hb).2)
  have hB1 := HB.out.fr hfr (fun h => by have := HD.out _ h; omega)
  have hsz := hfr.size
  simp only [World.size_alloc] at hsz hd1
  have H1 := Lib.hid (And.intro hI1 (And.intro hfr hd1))
  obtain ⟨x0, x1, x2, f0, f1, f2⟩ := hB1.three
  have HA1 := Lib.hid hA1
  clear hA1 hB1 hfr hd1 hI1 hv1 HX HA HB HI HP
  by_cases hv0 : v1 = 0
  · have hnz : (v1 != 0) = false := by simpa using hv0
    obtain ⟨b', o', a1, c1, he, hbl1, _, e0, e1, e2, hp, _, _⟩ := HA1.out.elem (w' := w1) (Below.refl _ _) (i := 2) (by simp)
    injection he with he
    injection he with he1 he2
    subst he1 he2
    simp only [List.getElem_cons_succ, List.getElem_cons_zero] at e0 e1 e2 hp
    have HP1 := Lib.hid hp
    clear hp
    go_wp2_with fail
    refine (HZ.out _ S a1 c1 _ D1 fz HP1.out (fun b hb => ⟨by have := (HS.out b hb).1; omega, fun h => ?_⟩) H1.out.1 (by simp only [List.length_append]; omega)).mono ?_
    · rcases H1.out.2.2 b h with h | h
      · exact (HS.out b hb).2 h
      · have := (HS.out b hb).1; omega
    rintro e w2 ⟨rfl, D2, hI2, hfr, hd2⟩
    obtain ⟨v2, hv2⟩ : ∃ v2, v2 = z.val vs := ⟨_, rfl⟩
    have hvb2 := T.val_bd vs HH.out.bd z fz
    rw [← hv2] at hvb2 ⊢
    have HV2 := Lib.hid hv2
    have H2 := Lib.hid (And.intro hI2 (And.intro hfr hd2))
    clear hfr hd2 hI2 hv2 x0 x1 x2 f0 f1 f2 e0 e1 e2
    go_wp2_with fail
    go_ret
    rw [val_4, kys_4, ← HV1.out, if_pos (by omega), if_pos (by omega), ← HV2.out]
    exact ⟨rfl, D2, by rw [← List.append_assoc]; exact H2.out.1, ((Fr.of_below ((Below.refl _ _).alloc (Nat.le_refl _) _)).trans H1.out.2.1 (fun b hb => .inl hb)).trans H2.out.2.1 (fun b hb => (H1.out.2.2 b hb).imp id (fun h => by omega)), fun b hb => by
      rcases H2.out.2.2 b hb with h | h
      · exact (H1.out.2.2 b h).imp id (fun h => by omega)
      · exact .inr (by omega)⟩
  · have hnz : (v1 != 0) = true := by simpa using hv0
    obtain ⟨b', o', a1, c1, he, hbl1, _, e0, e1, e2, hp, _, _⟩ := HA1.out.elem (w' := w1) (Below.refl _ _) (i := 1) (by simp)
    injection he with he
    injection he with he1 he2
    subst he1 he2
    simp only [Nat.one_mul, List.getElem_cons_succ, List.getElem_cons_zero] at e0 e1 e2 hp
    have HP1 := Lib.hid hp
    clear hp
    go_wp2_with fail
    refine (HY.out _ S a1 c1 _ D1 fy HP1.out (fun b hb => ⟨by have := (HS.out b hb).1; omega, fun h => ?_⟩) H1.out.1 (by simp only [List.length_append]; omega)).mono ?_
    · rcases H1.out.2.2 b h with h | h
      · exact (HS.out b hb).2 h
      · have := (HS.out b hb).1; omega
    rintro e w2 ⟨rfl, D2, hI2, hfr, hd2⟩
    obtain ⟨v2, hv2⟩ : ∃ v2, v2 = y.val vs := ⟨_, rfl⟩
    have hvb2 := T.val_bd vs HH.out.bd y fy
    rw [← hv2] at hvb2 ⊢
    have HV2 := Lib.hid hv2
    have H2 := Lib.hid (And.intro hI2 (And.intro hfr hd2))
    clear hfr hd2 hI2 hv2 x0 x1 x2 f0 f1 f2 e0 e1 e2
    go_wp2_with fail
    go_ret
    rw [val_4, kys_4, ← HV1.out, if_neg (by omega), if_neg (by omega), ← HV2.out]
    exact ⟨rfl, D2, by rw [← List.append_assoc]; exact H2.out.1, ((Fr.of_below ((Below.refl _ _).alloc (Nat.le_refl _) _)).trans H1.out.2.1 (fun b hb => .inl hb)).trans H2.out.2.1 (fun b hb => (H1.out.2.2 b hb).imp id (fun h => by omega)), fun b hb => by
      rcases H2.out.2.2 b hb with h | h
      · exact (H1.out.2.2 b h).imp id (fun h => by omega)
      · exact .inr (by omega)⟩

set_option maxRecDepth 100000 in
set_option maxHeartbeats 1000000 in
theorem reck_5 {f : FuncId} {caps : Array Value} {vs : Int → Int} {I : List Int → (Nat → Prop) → World → Prop} (H : Fetcher f caps vs I) (n : Int) (x : T) (h0 : 0 ≤ n) (h9 : n ≤ 9) (fx : x.fit = true) (hx : RkT f caps vs I x) : RkT f caps vs I (.mk 5 n [x]) := by
  intro w S a c ks D hf hat hS hI hle
  simp only [T.k, T.n, T.ps, List.length_cons, List.length_nil, T.nodes, nodesL] at *
  have hD := H.lt ks D w hI
  have HI := Lib.hid (H.below ks D w _ hI ((Below.refl _ _).alloc (Nat.le_refl _) (.cells #[.int .i64 5, .int .i64 n, .slice a 1 c] 42)).drew)
  have HB := Lib.hid (Blk.new w 42 #[.int .i64 5, .int .i64 n, .slice a 1 c])
  have HX := Lib.hid hx
  have HH := Lib.hid H
  have HS := Lib.hid hS
  have HD := Lib.hid hD
  obtain ⟨b, o, a0, c0, rfl, hbl, hSb, e0, e1, e2, hp, _, _⟩ := hat.elem (w' := w.alloc (.cells #[.int .i64 5, .int .i64 n, .slice a 1 c] 42)) ((Below.refl _ _).alloc (Nat.le_refl _) _) (i := 0) (by simp)
  simp only [Nat.zero_mul, Nat.add_zero, List.getElem_cons_zero] at e0 e1 e2 hp
  have HP := Lib.hid hp.drew
  have hk1 := (T.kys_bd vs x fx).2
  have eg := H.enters
  clear hat hI H hS hD hx hp hf
  go_enter Try.func105, Try.ntmps105
  go_wp2_with fail
  go_region_with (first | (go_at_call 105; refine (HX.out _ S a0 c0 ks D fx HP.out (fun b hb => ⟨by have := (HS.out b hb).1; simp; omega, (HS.out b hb).2⟩) HI.out (by omega)).mono ?_; rintro e w1 ⟨rfl, D1, hI1, hfr, hd1⟩; obtain ⟨v1, hv1⟩ : ∃ v1, v1 = x.val vs := ⟨_, rfl⟩; have hvb1 := T.val_bd vs HH.out.bd x fx; rw [← hv1] at hvb1 ⊢; have HV1 := Lib.hid hv1; have H1 := Lib.hid (And.intro hI1 (And.intro hfr hd1)); obtain ⟨z0, z1, z2, g0, g1, g2⟩ := (HB.out.drew.fr hfr (fun h => by have := HD.out _ h; omega)).three; clear hfr hd1 hI1 hv1; have W1 : IntKind.i64.wrap (n + v1) = n + v1 := IntWalk.i64_in _ ⟨by omega, by omega⟩; have E1 : (n + v1).tmod 10 = (n + v1) % 10 := Int.tmod_eq_emod_of_nonneg (by omega)) | (go_at_fn f; clear W1 E1; refine (HH.out.call _ D1 _ _ (Int.emod_nonneg _ (by omega)) (by have := Int.emod_lt_of_pos (n + v1) (show (0 : Int) < 10 by omega); omega) (by simp only [List.length_append]; omega) H1.out.1).mono ?_; rintro e w2 ⟨rfl, D2, hI2, hfr, hd2⟩))
  all_goals
    have H2 := Lib.hid (And.intro hI2 (And.intro hfr hd2))
    clear hfr hd2 hI2
    go_wp2_with fail
    go_ret
    rw [val_5, kys_5, ← HV1.out]
    exact ⟨rfl, D2, by rw [← List.append_assoc]; exact H2.out.1, ((Fr.of_below ((Below.refl _ _).alloc (Nat.le_refl _) _).drew).trans H1.out.2.1 (fun b hb => .inl hb)).trans H2.out.2.1 (fun b hb => (H1.out.2.2 b hb).imp id (fun h => by simp at h; omega)), fun b hb => by
      rcases H2.out.2.2 b hb with h | h
      · exact (H1.out.2.2 b h).imp id (fun h => by simp at h; omega)
      · have := H1.out.2.1.size; simp at this; exact .inr (by omega)⟩

theorem reck_all {f : FuncId} {caps : Array Value} {vs : Int → Int} {I : List Int → (Nat → Prop) → World → Prop} (H : Fetcher f caps vs I) : ∀ t, RkT f caps vs I t := T.ind fun k n ps ih => by
  intro w S a c ks D hf
  generalize ht : T.mk k n ps = t at hf ⊢
  revert w S a c ks D
  suffices h : RkT f caps vs I t from fun w S a c ks D => h w S a c ks D hf
  refine T.cases_fit (P := fun t => RkT f caps vs I t) t hf ?_ ?_ ?_ ?_ ?_ ?_
  · rintro n _ _ rfl; exact reck_0 H n
  · rintro n a0 a1 rfl; exact reck_1 H n a0 a1
  · rintro a b ha hb rfl; injection ht with _ _ hps; subst hps; exact reck_2 H a b ha hb (ih a (by simp)) (ih b (by simp))
  · rintro a b ha hb rfl; injection ht with _ _ hps; subst hps; exact reck_3 H a b ha hb (ih a (by simp)) (ih b (by simp))
  · rintro a b c ha hb hc rfl; injection ht with _ _ hps; subst hps; exact reck_4 H a b c ha hb hc (ih a (by simp)) (ih b (by simp)) (ih c (by simp))
  · rintro n a a0 a1 ha rfl; injection ht with _ _ hps; subst hps; exact reck_5 H n a a0 a1 ha (ih a (by simp))
end Go.Proofs.Ytklmpagpkeffjaa
