/- l91Num, l91Fit, l91Any, l6Open -/
import Derived.Test.YtklmpagpkeffjaaDraw1
namespace Go.Proofs.Ytklmpagpkeffjaa
open Go.RowKit

/-- l91Num: one of some numbers. -/
theorem num_any (w : World) (g p lb n : Nat) (lo hi : Int) (vs : Nat → Int) (hr : RdAt w g p) (hp : p ≤ 999990) (hn : 1 ≤ n) (hn' : n ≤ 10) (hg : lb ≠ g) (hv : ∀ i, i < n → w.cell? ⟨lb, i, none⟩ = some (.int .i64 (vs i)) ∧ lo ≤ vs i ∧ vs i ≤ hi) :
    Calls Try.prog 97 #[.pointer (some ⟨g, 0, none⟩), .slice (some ⟨lb, 0, none⟩) n n] w (Drew g p 1 lo hi w) := by
  have HR := Lib.hid hr
  have HV := Lib.hid hv
  clear hr hv
  go_enter Try.func97, Try.ntmps97
  go_wp2_with fail
  refine (pick_any _ g p n HR.out (by omega) (by omega) (by omega)).mono ?_
  rintro e w1 ⟨r, rfl, hr0, hr1, hrd, ho⟩
  have hrn := hr1 (by omega)
  obtain ⟨q, rfl⟩ : ∃ q : Nat, r = q := ⟨r.toNat, by omega⟩
  have hq : q < n := by omega
  obtain ⟨hc, h1, h2⟩ := HV.out q hq
  have hc' := ho.cell hc (by simpa using fun e => hg e)
  have HE := Lib.hid (And.intro hrd ho)
  clear hrd ho hr1 hc
  go_wp2_with fail
  go_ret
  exact ⟨vs q, p + 1, rfl, h1, h2, by omega, by omega, HE.out.1, HE.out.2⟩

def set3 (w : World) (R : Nat) (x y z : Value) : World := ((w.setCell ⟨R, 0, none⟩ x).setCell ⟨R, 1, none⟩ y).setCell ⟨R, 2, none⟩ z
theorem set3_heap (w : World) (R : Nat) (x y z : Value) (k : Nat) (hk : k ≠ R) : (set3 w R x y z).heap[k]? = w.heap[k]? := by
  unfold set3
  rw [Below.heap_setCell _ _ _ _ (by simpa using hk), Below.heap_setCell _ _ _ _ (by simpa using hk), Below.heap_setCell _ _ _ _ (by simpa using hk)]
theorem set3_size (w : World) (R : Nat) (x y z : Value) : (set3 w R x y z).heap.size = w.heap.size := by simp [set3, World.setCell]
theorem RdAt.set3 {w : World} {g p R : Nat} (h : RdAt w g p) (hR : g < R) (x y z : Value) : RdAt (set3 w R x y z) g p := h.keep fun k hk => set3_heap _ _ _ _ _ _ (by omega)
theorem Only.set3 {w w2 : World} {g R : Nat} (h : Only g w w2) (hR : w.heap.size ≤ R) (x y z : Value) : Only g w (set3 w2 R x y z) := ((h.set (.inr hR) _).set (.inr hR) _).set (.inr hR) _
theorem OwS.set3 {w : World} {e : TypeId} {F : Nat → Prop} {ps : List T} {a : Option Addr} {c R : Nat} (h : OwS w e F ps a c) (hR : ∀ b, F b → b ≠ R) (x y z : Value) : OwS (set3 w R x y z) e F ps a c :=
  h.keep (fun _ h => h) (fun b hb _ => set3_heap _ _ _ _ _ _ (hR b hb))

/-- A task that is one was drawn. -/
def DrewF (g p d : Nat) (w : World) (e : Ending) (w' : World) : Prop := ∃ (t : T) (a : Option Addr) (c p' : Nat), e = .returned (.agg #[.int .i64 t.k, .int .i64 t.n, .slice a t.ps.length c]) ∧ OwS w' 42 (fun b => w.heap.size ≤ b ∧ b < w'.heap.size) t.ps a c ∧
  i64ok t.k ∧ i64ok t.n ∧ t.ok = true ∧ p ≤ p' ∧ p' ≤ p + d ∧ RdAt w' g p' ∧ Only g w w'

theorem ok_get (n : Int) (h0 : 0 ≤ n) (h1 : n ≤ 9) : (T.mk 1 n []).ok = true := by unfold T.ok; rw [fit_get n h0 h1]; rfl

set_option maxHeartbeats 1000000 in
theorem fit_any (w : World) (g p : Nat) (below : Int) (hr : RdAt w g p) (hp : p ≤ 999000) (hb0 : 0 ≤ below) (hb1 : below ≤ 10) :
    Calls Try.prog 92 #[.pointer (some ⟨g, 0, none⟩), .int .i64 below] w (DrewF g p 40 w) := by
  have hgl := hr.lt
  have hgn : w.heap.size ≠ g := by omega
  have HR := Lib.hid (hr.alloc (.cells #[.int .i64 0, .int .i64 0, .slice none 0 0] 42))
  clear hr
  go_enter Try.func92, Try.ntmps92
  go_wp2_with fail
  refine (dtask_all 2 (by omega) _ g p below HR.out (by simp [dN]; omega) hb0 hb1).mono ?_
  rintro e w1 ⟨t, a, c, p', rfl, hat, ok1, ok2, hf, hm, hp0, hp1, hrd, ho⟩
  have hp1' : p' ≤ p + 39 := hp1
  have hm' : t.nodes ≤ 13 := hm
  have hsz := ho.size
  simp only [World.size_alloc] at hsz
  have hK1 : Blk w1 w.heap.size 42 #[.int .i64 0, .int .i64 0, .slice none 0 0] := (Blk.new w 42 #[.int .i64 0, .int .i64 0, .slice none 0 0]).only ho hgn
  have HK1 := Lib.hid (hK1.alloc (.cells #[.int .i64 t.k, .int .i64 t.n, .slice a t.ps.length c] 42))
  have HB1 := Lib.hid (Blk.new w1 42 #[.int .i64 t.k, .int .i64 t.n, .slice a t.ps.length c])
  have HT1 := Lib.hid (hat.alloc (.cells #[.int .i64 t.k, .int .i64 t.n, .slice a t.ps.length c] 42))
  have HE1 := Lib.hid (And.intro (hrd.alloc (.cells #[.int .i64 t.k, .int .i64 t.n, .slice a t.ps.length c] 42)) ((((Only.refl g w).alloc (.cells #[.int .i64 0, .int .i64 0, .slice none 0 0] 42)).trans ho).alloc (.cells #[.int .i64 t.k, .int .i64 t.n, .slice a t.ps.length c] 42)))
  have HOK := Lib.hid (And.intro ok1 ok2)
  have hnl : nodesL t.ps ≤ 1048576 := by have := t.nodes_eq; omega
  clear hat hrd ho hf hm hp1 hK1 ok1 ok2
  go_wp2_with fail
  refine (specOk_any t _ _ a c HT1.out.at hnl).mono ?_
  rintro e w2 ⟨rfl, hb⟩
  have hsz2 := hb.size
  simp only [World.size_alloc] at hsz2
  have HK2 := Lib.hid (HK1.out.below hb (by simp; omega))
  have HB2 := Lib.hid (HB1.out.below hb (by simp))
  have HT2 := Lib.hid (HT1.out.below hb)
  have HE2 := Lib.hid (And.intro (HE1.out.1.below hb) (HE1.out.2.trans (.of_below hb)))
  obtain ⟨x0, x1, x2, f0, f1, f2⟩ := HK2.out.three
  obtain ⟨y0, y1, y2, g0, g1, g2⟩ := HB2.out.three
  have hne1 : w1.heap.size ≠ w.heap.size := by omega
  clear hb HK1 HB1 HT1 HE1
  cases hok : t.ok
  · have HOKB := Lib.hid hok
    clear hok
    go_wp2_with fail
    refine (pick_any _ g p' 10 HE2.out.1 (by omega) (by omega) (by omega)).mono ?_
    rintro e w3 ⟨r, rfl, hr0, hr1, hrd, ho⟩
    have hr9 := hr1 (by omega)
    have HK3 := Lib.hid (HK2.out.only ho hgn)
    have HE3 := Lib.hid (And.intro hrd (HE2.out.2.trans ho))
    clear hrd ho hr1 x0 x1 x2 f0 f1 f2 y0 y1 y2 g0 g1 g2
    obtain ⟨x0, x1, x2, f0, f1, f2⟩ := HK3.out.three
    go_wp2_with fail
    refine bodyPost_ret (v := .agg #[.int .i64 1, .int .i64 r, .slice none 0 0]) (by simp [results, Try.results92, go_sem, x0, x1, x2]) rfl ?_
    exact ⟨.mk 1 r [], none, 0, p' + 1, rfl, OwS.nil, by simp [T.k, i64ok], by simp [T.n, i64ok]; omega, ok_get _ hr0 (by omega), by omega, by omega, HE3.out.1.set3 hgl _ _ _, HE3.out.2.set3 (Nat.le_refl _) _ _ _⟩
  · have HOKB := Lib.hid hok
    clear hok
    go_wp2_with fail
    refine bodyPost_ret (v := .agg #[.int .i64 t.k, .int .i64 t.n, .slice a t.ps.length c]) (by simp [results, Try.results92, go_sem, x0, x1, x2]) rfl ?_
    refine ⟨t, a, c, p', rfl, (HT2.out.set3 (R := w.heap.size) (by intro b hb; simp at hb; omega) _ _ _).weaken ?_, HOK.out.1, HOK.out.2, HOKB.out, by omega, by omega, HE2.out.1.set3 hgl _ _ _, HE2.out.2.set3 (Nat.le_refl _) _ _ _⟩
    intro b hb
    simp only [World.size_alloc] at hb
    have := set3_size w2 w.heap.size (.int .i64 t.k) (.int .i64 t.n) (.slice a t.ps.length c)
    unfold set3 at this
    omega

end Go.Proofs.Ytklmpagpkeffjaa
