/- DrawTracesFind -/
import Derived.Test.YtjbggeeadodmpaaDrawTH
import Derived.Test.YtjbggeeadodmpaaTr2
namespace Go.Proofs.Ytjbggeeadodmpaa
open Go.RowKit

/-- Traces, a key and values of keys were drawn off a code. -/
def DrawnTF (w : World) (e : Ending) (w' : World) : Prop := ∃ (ts : List Tr) (a : Option Addr) (c : Nat) (key : Int) (y : List Int) (ay : Option Addr) (cy : Nat) (S S2 : Nat → Prop), e = .returned (.tuple #[.slice a ts.length c, .int .i64 key, .slice ay y.length cy]) ∧
  TrsAt w' S ts a c ∧ IntsAt w' S2 y ay cy ∧ Below w.heap.size w w'

set_option maxRecDepth 100000 in
set_option maxHeartbeats 4000000 in
theorem drawTracesFind_any (w : World) (a : Option Addr) (n c : Nat) (h : CodeAt w a n c) : Calls Try.prog 14 #[.slice a n c] w (DrawnTF w) := by
  have HC := Lib.hid h
  clear h
  go_enter Try.func14, Try.ntmps14
  go_wp2_with fail
  refine (open_any _ a n c HC.out).mono ?_
  rintro e w1 ⟨rfl, hrd, hb⟩
  have HR1 := Lib.hid hrd
  have HX1 := Lib.hid hb
  have hg1 := hrd.lt
  have hs1 := hb.size
  clear hrd hb HC
  go_wp2_with fail
  refine (traces_any w1 w.heap.size 0 HR1.out (by omega)).mono ?_
  rintro e w2 ⟨ts, v, us, p2, rfl, ht, hd, hll, hp2, hp3, hrd, ho⟩
  obtain ⟨a2, c2, rfl, hat⟩ := ht.at (fun t h => (hd t h).fine)
  have HT2 := Lib.hid ((hat.lim).weaken (S' := fun b => w1.heap.size ≤ b ∧ b < w2.heap.size) (fun b hb => ⟨(ht.lt hb.1).1, hb.2⟩))
  have HD := Lib.hid hd
  have HR2 := Lib.hid hrd
  have HX2 := Lib.hid (below_only HX1.out ho (Nat.le_refl _))
  have hs2 := ho.size
  clear ht hat hd hrd ho HR1 HX1
  go_wp2_with fail
  refine (pick_any _ w.heap.size p2 10 HR2.out (by omega) (by omega) (by omega)).mono ?_
  rintro e w3 ⟨key, rfl, k0, k1, hrd, ho⟩
  have hs3 := ho.size
  have HT3 := Lib.hid (HT2.out.fr (fr_of_only ho) (fun b hb e => by omega))
  have HR3 := Lib.hid hrd
  have HX3 := Lib.hid (below_only HX2.out ho (Nat.le_refl _))
  clear hrd ho HT2 HR2 HX2 k0 k1
  go_wp2_with fail
  refine (vals_any _ w.heap.size (p2 + 1) HR3.out (by omega)).mono ?_
  rintro e w4 ⟨y, vy, p4, rfl, hn4, hyl, hyb, hp4, hp5, hrd, ho⟩
  have hs4 := ho.size
  obtain ⟨ay, cy, rfl, hia⟩ := NumRow.at (show NumRow _ _ _ y from hn4) (fun x hx => by have := hyb x hx; unfold i64ok; omega)
  have HT4 := Lib.hid (HT3.out.fr (fr_of_only ho) (fun b hb e => by omega))
  have HR4 := Lib.hid hrd
  have HX4 := Lib.hid (below_only HX3.out ho (Nat.le_refl _))
  have HI4 := Lib.hid (hia.lim.weaken (S' := fun b => w3.heap.size ≤ b ∧ b < w4.heap.size) (fun b hb => hb))
  have HEND := Lib.hid (show ∀ (key : Int) (wr : World), TrsAt wr (fun b => w1.heap.size ≤ b ∧ b < w2.heap.size) ts a2 c2 → IntsAt wr (fun b => w3.heap.size ≤ b ∧ b < w4.heap.size) y ay cy → Below w.heap.size w wr → DrawnTF w (.returned (.tuple #[.slice a2 ts.length c2, .int .i64 key, .slice ay y.length cy])) wr from
    fun key wr h1 h2 h3 => ⟨ts, a2, c2, key, y, ay, cy, _, _, rfl, h1, h2, h3⟩)
  clear hn4 hia hyb hyl hrd ho HT3 HR3 HX3
  by_cases hts : ts.length = 0
  · have hts0 : ¬ (0 : Int) < (ts.length : Int) := by omega
    clear hts
    go_wp2_with fail
    go_ret3
    exact HEND.out _ _ HT4.out HI4.out HX4.out
  have hts0 : (0 : Int) < (ts.length : Int) := by omega
  go_wp2_with fail
  refine (pick_any _ w.heap.size p4 3 HR4.out (by omega) (by omega) (by omega)).mono ?_
  rintro e w5 ⟨q, rfl, q0, q1, hrd, ho⟩
  have hs5 := ho.size
  have HT5 := Lib.hid (HT4.out.fr (fr_of_only ho) (fun b hb e => by omega))
  have HI5 := Lib.hid (HI4.out.fr (fr_of_only ho) (fun b hb e => by omega))
  have HR5 := Lib.hid hrd
  have HX5 := Lib.hid (below_only HX4.out ho (Nat.le_refl _))
  clear hrd ho HT4 HR4 HX4 HI4 q1
  by_cases hq : q = 0
  · subst hq
    go_wp2_with fail
    go_ret3
    exact HEND.out _ _ HT5.out HI5.out HX5.out
  have hq0 : (0 : Int) < q := by omega
  go_wp2_with fail
  refine (pick_any _ w.heap.size (p4 + 1) ts.length HR5.out (by omega) (by omega) (by omega)).mono ?_
  rintro e w6 ⟨x, rfl, x0, x1, hrd, ho⟩
  have hx1 := x1 (by omega)
  obtain ⟨k, rfl⟩ : ∃ k : Nat, x = k := ⟨x.toNat, by omega⟩
  have hs6 := ho.size
  have HT6 := Lib.hid (HT5.out.fr (fr_of_only ho) (fun b hb e => by omega))
  have HI6 := Lib.hid (HI5.out.fr (fr_of_only ho) (fun b hb e => by omega))
  have HX6 := Lib.hid (below_only HX5.out ho (Nat.le_refl _))
  clear hrd ho HT5 HR5 HX5 HI5 x1 q0 hq hq0
  have hlt : k < ts.length := by omega
  obtain ⟨bo, oo, at_, ct, ha2, hbo, _, e0, e1, e2, hpr, _, _⟩ := HT6.out.get (Below.refl _ _) hlt
  obtain ⟨t, htk⟩ : ∃ t, t = ts[k] := ⟨_, rfl⟩
  rw [← htk] at e0 e1 e2 hpr
  have HA2 := Lib.hid ha2
  have HP6 := Lib.hid (hpr.alloc (.cells #[.int .i64 t.k, .slice at_ t.u.length ct, .int .i64 t.v] 25))
  have HT7 := Lib.hid (HT6.out.alloc (.cells #[.int .i64 t.k, .slice at_ t.u.length ct, .int .i64 t.v] 25))
  have HI7 := Lib.hid (HI6.out.alloc (.cells #[.int .i64 t.k, .slice at_ t.u.length ct, .int .i64 t.v] 25))
  have HX7 := Lib.hid (HX6.out.alloc HX6.out.size (.cells #[.int .i64 t.k, .slice at_ t.u.length ct, .int .i64 t.v] 25))
  have HB7 := Lib.hid (Blk.new w6 25 #[.int .i64 t.k, .slice at_ t.u.length ct, .int .i64 t.v])
  clear htk ha2 hpr HT6 HI6 HX6
  obtain rfl := HA2.out
  obtain ⟨W7, hW7⟩ : ∃ W, W = w6.alloc (.cells #[.int .i64 t.k, .slice at_ t.u.length ct, .int .i64 t.v] 25) := ⟨_, rfl⟩
  have HWE := Lib.hid hW7
  rw [← hW7] at HP6 HT7 HI7 HX7 HB7
  obtain ⟨z0, z1, z2, -⟩ := HB7.out.three
  rw [hW7] at z0 z1 z2
  clear hW7
  go_wp2_with fail
  rw [← HWE.out]
  clear z0 z1 z2 e0 e1 e2
  refine (l5One_any W7 _ t at_ ct HP6.out).mono ?_
  rintro e w8 ⟨rfl, hb⟩
  have HT8 := Lib.hid (HT7.out.below hb)
  have HI8 := Lib.hid (HI7.out.below hb)
  have HX8 := Lib.hid (HX7.out.trans (hb.mono HX7.out.size))
  have HB8 := Lib.hid (HB7.out.below hb HB7.out.lt)
  have HP8 := Lib.hid (HP6.out.below hb)
  clear hb HT7 HI7 HX7 HB7 HP6
  obtain ⟨z0, z1, z2, -⟩ := HB8.out.three
  cases hok : t.ok
  · clear hok
    go_wp2_with fail
    go_ret3
    exact HEND.out _ _ HT8.out HI8.out HX8.out
  · have HOK := Lib.hid ((Tr.ok_iff _).1 hok).2.2.1
    clear hok
    go_wp2_with fail
    refine (l5Back_any w8 _ t at_ ct HP8.out HOK.out).mono ?_
    rintro e w9 ⟨vb, rfl, hn9, hb9⟩
    obtain ⟨ab, cb, rfl, hib⟩ := NumRow.at (show NumRow _ _ _ (backF t.u) from hn9) (fun x hx => by have := backF_mem (fun p hp => (HOK.out p hp).2) x hx; unfold i64ok; omega)
    have HX9 := Lib.hid (show DrawnTF w (.returned (.tuple #[.slice (some ⟨bo, oo, none⟩) ts.length c2, .int .i64 t.k, .slice ab (backF t.u).length cb])) w9 from ⟨ts, _, c2, t.k, backF t.u, ab, cb, _, _, rfl, HT8.out.below hb9, hib, HX8.out.trans (hb9.mono HX8.out.size)⟩)
    clear hn9 hib hb9 z0 z1 z2 HB8
    go_wp2_with fail
    go_ret3
    exact HX9.out
end Go.Proofs.Ytjbggeeadodmpaa
