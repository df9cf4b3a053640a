/- l91Any, l6Open -/
import Derived.Test.YtgcjnhlppapfdaaDoorDraw2
import Derived.Test.YtgcjnhlppapfdaaDoorCopy
import Derived.Deep.Cut
namespace Go.Proofs.YtgcjnhlppapfdaaDoor
open Go.RowKit

/-- Some task was drawn, be it one or not. -/
def DrewA (g p d : Nat) (w : World) (e : Ending) (w' : World) : Prop := ∃ (t : T) (a : Option Addr) (c p' : Nat), e = .returned (.agg #[.int .i64 t.k, .int .i64 t.n, .slice a t.ps.length c]) ∧ OwS w' 25 (fun b => w.heap.size ≤ b ∧ b < w'.heap.size) t.ps a c ∧
  i64ok t.k ∧ i64ok t.n ∧ t.nodes ≤ 100 ∧ p ≤ p' ∧ p' ≤ p + d ∧ RdAt w' g p' ∧ Only g w w'

theorem anyEnd {w w5 : World} {g p p' d : Nat} {F : Nat → Prop} {t : T} {a : Option Addr} {c : Nat} (hgl : g < w.heap.size) (hR : RdAt w5 g p') (hO : Only g w w5) (how : OwS w5 25 F t.ps a c) (hF : ∀ b, F b → w.heap.size < b ∧ b < w5.heap.size)
    (ok1 : i64ok t.k) (ok2 : i64ok t.n) (hm : t.nodes ≤ 100) (h1 : p ≤ p') (h2 : p' ≤ p + d) :
    DrewA g p d w (.returned (.agg #[.int .i64 t.k, .int .i64 t.n, .slice a t.ps.length c])) (set3 w5 w.heap.size (.int .i64 t.k) (.int .i64 t.n) (.slice a t.ps.length c)) :=
  ⟨t, a, c, p', rfl, (how.set3 (fun b hb => by have := hF b hb; omega) _ _ _).weaken (fun b hb => by have := hF b hb; rw [set3_size]; omega), ok1, ok2, hm, h1, h2, hR.set3 hgl _ _ _, hO.set3 (Nat.le_refl _) _ _ _⟩

set_option maxHeartbeats 8000000 in
theorem any_any (w : World) (g p : Nat) (hr : RdAt w g p) (hp : p ≤ 990000) :
    Calls Tryd.prog 14 #[.pointer (some ⟨g, 0, none⟩)] w (DrewA g p 400 w) := by
  have hgl := hr.lt
  have hgn : w.heap.size ≠ g := by omega
  have HR := Lib.hid (hr.alloc (.cells #[.int .i64 0, .int .i64 0, .slice none 0 0] 25))
  clear hr
  go_enter Tryd.func14, Tryd.ntmps14
  go_wp2_with fail
  refine (fit_any _ g p 10 HR.out (by omega) (by omega) (by omega)).mono ?_
  rintro e w1 ⟨t, a, c, p', rfl, hat, ok1, ok2, hok, hp0, hp1, hrd, ho⟩
  have hsz := ho.size
  simp only [World.size_alloc] at hsz hat
  have hK1 : Blk w1 w.heap.size 25 #[.int .i64 0, .int .i64 0, .slice none 0 0] := (Blk.new w 25 #[.int .i64 0, .int .i64 0, .slice none 0 0]).only ho hgn
  have HK1 := Lib.hid (hK1.alloc (.cells #[.int .i64 t.k, .int .i64 t.n, .slice a t.ps.length c] 25))
  have HB1 := Lib.hid (Blk.new w1 25 #[.int .i64 t.k, .int .i64 t.n, .slice a t.ps.length c])
  have HT1 := Lib.hid (hat.alloc (.cells #[.int .i64 t.k, .int .i64 t.n, .slice a t.ps.length c] 25))
  have HE1 := Lib.hid (And.intro (hrd.alloc (.cells #[.int .i64 t.k, .int .i64 t.n, .slice a t.ps.length c] 25)) ((((Only.refl g w).alloc (.cells #[.int .i64 0, .int .i64 0, .slice none 0 0] 25)).trans ho).alloc (.cells #[.int .i64 t.k, .int .i64 t.n, .slice a t.ps.length c] 25)))
  have hn15 : t.nodes ≤ 15 := by have : t.ok = true := hok; simp [T.ok] at this; exact this.2
  have HOK := Lib.hid (And.intro ok1 ok2)
  clear hat hrd ho hok hK1 ok1 ok2
  go_wp2_with fail
  refine (pick_any _ g p' 10 HE1.out.1 (by omega) (by omega) (by omega)).mono ?_
  rintro e w2 ⟨r, rfl, hr0, hr1, hrd, ho⟩
  have hsz2 := ho.size
  simp only [World.size_alloc] at hsz2
  have hBg : w1.heap.size ≠ g := by omega
  have HK2 := Lib.hid (HK1.out.only ho hgn)
  have HB2 := Lib.hid (HB1.out.only ho hBg)
  have HT2 := Lib.hid (HT1.out.only (g := g) (by intro b hb; omega) ho)
  have HE2 := Lib.hid (And.intro hrd (HE1.out.2.trans ho))
  have hne1 : w1.heap.size ≠ w.heap.size := by omega
  clear hrd ho hr1 HK1 HB1 HT1 HE1
  obtain ⟨x0, x1, x2, f0, f1, f2⟩ := HK2.out.three
  obtain ⟨y0, y1, y2, g0, g1, g2⟩ := HB2.out.three
  by_cases hz : r = 0
  · have hzb : (r == 0) = true := by simp [hz]
    clear hz
    go_wp2_with fail
    refine (pick_any _ g (p' + 1) 4 HE2.out.1 (by omega) (by omega) (by omega)).mono ?_
    rintro e w3 ⟨q, rfl, hq0, hq1, hrd, ho⟩
    have hq4 := hq1 (by omega)
    have hsz3 := ho.size
    have HK3 := Lib.hid (HK2.out.only ho hgn)
    have HB3 := Lib.hid (HB2.out.only ho hBg)
    have HT3 := Lib.hid (HT2.out.only (g := g) (by intro b hb; omega) ho)
    have HE3 := Lib.hid (And.intro hrd (HE2.out.2.trans ho))
    clear hrd ho hq1 HK2 HB2 HT2 HE2 x0 x1 x2 f0 f1 f2 y0 y1 y2 g0 g1 g2
    by_cases h0 : q = 0
    · have h0b : (q == 0) = true := by simp [h0]
      clear h0
      go_wp2_with fail
      refine (num_any _ g (p' + 2) w3.heap.size 4 (-1) (97) (fun i => if i = 0 then -1 else if i = 1 then 97 else if i = 2 then 10 else 1) (HE3.out.1.alloc _) (by omega) (by omega) (by omega) (by omega) ?_).mono ?_
      · intro i hi
        have hi' : i = 0 ∨ i = 1 ∨ i = 2 ∨ i = 3 := by omega
        rcases hi' with rfl | rfl | rfl | rfl <;> (rw [World.cell?_alloc_new]; simp)
      rintro e w4 ⟨v, p4, rfl, hv0, hv1, hp2, hp3, hrd, ho⟩
      have hsz4 := ho.size
      simp only [World.size_alloc] at hsz4
      have HK4 := Lib.hid ((HK3.out.alloc _).only ho hgn)
      have HB4 := Lib.hid ((HB3.out.alloc _).only ho hBg)
      have HT4 := Lib.hid ((HT3.out.alloc _).only (g := g) (by intro b hb; omega) ho)
      have HE4 := Lib.hid (And.intro hrd ((HE3.out.2.alloc _).trans ho))
      clear hrd ho HK3 HB3 HT3 HE3
      obtain ⟨x0, x1, x2, f0, f1, f2⟩ := HK4.out.three
      obtain ⟨y0, y1, y2, g0, g1, g2⟩ := HB4.out.three
      go_wp2_with fail
      refine bodyPost_ret (v := .agg #[.int .i64 t.k, .int .i64 v, .slice a t.ps.length c]) (by simp [results, Tryd.results14, go_sem, x0, x1, x2]) rfl ?_
      exact anyEnd (t := .mk t.k v t.ps) (w5 := w4.setCell ⟨w1.heap.size, 1, none⟩ (.int .i64 v)) hgl (HE4.out.1.keep fun k hk => Below.heap_setCell _ _ _ _ (by simp; omega)) (HE4.out.2.set (.inr (by simp; omega)) _) (HT4.out.setCell (by intro b hb; simp; omega) _) (by intro b hb; simp [World.setCell]; omega)
        (by first | exact HOK.out.1 | (simp [T.k, i64ok]; omega)) (by first | exact HOK.out.2 | (simp [T.n, i64ok]; omega)) (by have := t.nodes_eq; simp only [T.nodes]; omega) (by omega) (by omega)
    have h0b : (q == 0) = false := by simpa using h0
    by_cases h1 : q = 1
    · have h1b : (q == 1) = true := by simp [h1]
      clear h0 h1
      go_wp2_with fail
      refine (num_any _ g (p' + 2) w3.heap.size 3 (-1) (6) (fun i => if i = 0 then 6 else if i = 1 then -1 else 2) (HE3.out.1.alloc _) (by omega) (by omega) (by omega) (by omega) ?_).mono ?_
      · intro i hi
        have hi' : i = 0 ∨ i = 1 ∨ i = 2 := by omega
        rcases hi' with rfl | rfl | rfl <;> (rw [World.cell?_alloc_new]; simp)
      rintro e w4 ⟨v, p4, rfl, hv0, hv1, hp2, hp3, hrd, ho⟩
      have hsz4 := ho.size
      simp only [World.size_alloc] at hsz4
      have HK4 := Lib.hid ((HK3.out.alloc _).only ho hgn)
      have HB4 := Lib.hid ((HB3.out.alloc _).only ho hBg)
      have HT4 := Lib.hid ((HT3.out.alloc _).only (g := g) (by intro b hb; omega) ho)
      have HE4 := Lib.hid (And.intro hrd ((HE3.out.2.alloc _).trans ho))
      clear hrd ho HK3 HB3 HT3 HE3
      obtain ⟨x0, x1, x2, f0, f1, f2⟩ := HK4.out.three
      obtain ⟨y0, y1, y2, g0, g1, g2⟩ := HB4.out.three
      go_wp2_with fail
      refine bodyPost_ret (v := .agg #[.int .i64 v, .int .i64 t.n, .slice a t.ps.length c]) (by simp [results, Tryd.results14, go_sem, x0, x1, x2]) rfl ?_
      exact anyEnd (t := .mk v t.n t.ps) (w5 := w4.setCell ⟨w1.heap.size, 0, none⟩ (.int .i64 v)) hgl (HE4.out.1.keep fun k hk => Below.heap_setCell _ _ _ _ (by simp; omega)) (HE4.out.2.set (.inr (by simp; omega)) _) (HT4.out.setCell (by intro b hb; simp; omega) _) (by intro b hb; simp [World.setCell]; omega)
        (by first | exact HOK.out.1 | (simp [T.k, i64ok]; omega)) (by first | exact HOK.out.2 | (simp [T.n, i64ok]; omega)) (by have := t.nodes_eq; simp only [T.nodes]; omega) (by omega) (by omega)
    have h1b : (q == 1) = false := by simpa using h1
    by_cases h2 : q = 2
    · have h2b : (q == 2) = true := by simp [h2]
      clear h0 h1 h2
      go_wp2_with fail
      refine (dtask_all 3 (by omega) _ g (p' + 2) 10 HE3.out.1 (by simp [dN]; omega) (by omega) (by omega)).mono ?_
      rintro e w4 ⟨t1, a1, c1, p4, rfl, hat1, ok1, ok1', hf1, hm1, hp2, hp3, hrd, ho⟩
      have hp3' : p4 ≤ p' + 2 + 120 := hp3
      have hm1' : t1.nodes ≤ 40 := hm1
      have hsz4 := ho.size
      have HK4 := Lib.hid (HK3.out.only ho hgn)
      have HB4 := Lib.hid (HB3.out.only ho hBg)
      have HE4 := Lib.hid (And.intro hrd (HE3.out.2.trans ho))
      have HT1 := Lib.hid (And.intro ok1 (And.intro ok1' hat1))
      clear hrd ho HK3 HB3 HT3 HE3 ok1 ok1' hat1 hf1 hp3 hm1
      go_wp2_with fail
      refine (dtask_all 3 (by omega) _ g p4 10 HE4.out.1 (by simp [dN]; omega) (by omega) (by omega)).mono ?_
      rintro e w5 ⟨t2, a2, c2, p5, rfl, hat2, ok2, ok2', hf2, hm2, hp4, hp5, hrd, ho⟩
      have hp5' : p5 ≤ p4 + 120 := hp5
      have hm2' : t2.nodes ≤ 40 := hm2
      have hsz5 := ho.size
      have HK5 := Lib.hid (HK4.out.only ho hgn)
      have HB5 := Lib.hid (HB4.out.only ho hBg)
      have HE5 := Lib.hid (And.intro hrd (HE4.out.2.trans ho))
      have HT1' := Lib.hid (And.intro HT1.out.1 (And.intro HT1.out.2.1 (HT1.out.2.2.only (g := g) (by intro b hb; omega) ho)))
      have HT2 := Lib.hid (And.intro ok2 (And.intro ok2' hat2))
      clear hrd ho HK4 HB4 HE4 HT1 ok2 ok2' hat2 hf2 hp5 hm2
      obtain ⟨x0, x1, x2, f0, f1, f2⟩ := HK5.out.three
      obtain ⟨y0, y1, y2, g0, g1, g2⟩ := HB5.out.three
      have hz5 : w.heap.size < w5.heap.size := HK5.out.lt
      have hz5' : w1.heap.size < w5.heap.size := HB5.out.lt
      go_upto_region 11 with (fail)
      clear x0 x1 x2 f0 f1 f2 y0 y1 y2 g0 g1 g2
      obtain ⟨W, hW⟩ : ∃ W, W = (set3 w5 w1.heap.size (.int .i64 2) (.int .i64 0) (.slice (some ⟨w5.heap.size, 0, none⟩) 2 2)).alloc (.cells #[.int .i64 t1.k, .int .i64 t1.n, .slice a1 t1.ps.length c1, .int .i64 t2.k, .int .i64 t2.n, .slice a2 t2.ps.length c2] 25) := ⟨_, rfl⟩
      have hWsz : W.heap.size = w5.heap.size + 1 := by rw [hW]; simp [set3_size]
      have hWK : Blk W w.heap.size 25 #[.int .i64 0, .int .i64 0, .slice none 0 0] := by
        rw [hW]; exact Blk.alloc ((set3_heap _ _ _ _ _ _ (by omega)).trans HK5.out) _
      have hWB : Blk W w1.heap.size 25 #[.int .i64 2, .int .i64 0, .slice (some ⟨w5.heap.size, 0, none⟩) 2 2] := by
        rw [hW]; exact Blk.alloc (by have := ((HB5.out.set_ 0 (.int .i64 2)).set_ 1 (.int .i64 0)).set_ 2 (.slice (some ⟨w5.heap.size, 0, none⟩) 2 2); simpa [set3] using this) _
      have hWR : RdAt W g p5 := by rw [hW]; exact (HE5.out.1.set3 (by omega) _ _ _).alloc _
      have hWO : Only g w W := by rw [hW]; exact (HE5.out.2.set3 (by omega) _ _ _).alloc _
      have hWT : OwS W 25 (fun b => w.heap.size < b ∧ b < W.heap.size) [t1, t2] (some ⟨w5.heap.size, 0, none⟩) 2 := by
        have h := OwS.of_new (w := w5) (w4 := set3 w5 w1.heap.size (.int .i64 2) (.int .i64 0) (.slice (some ⟨w5.heap.size, 0, none⟩) 2 2)) (e := 25) (F := fun b => w1.heap.size < b ∧ b < w5.heap.size) (F' := fun b => w.heap.size < b ∧ b < W.heap.size) [(t1, a1, c1), (t2, a2, c2)] [t1, t2] rfl #[.int .i64 t1.k, .int .i64 t1.n, .slice a1 t1.ps.length c1, .int .i64 t2.k, .int .i64 t2.n, .slice a2 t2.ps.length c2] rfl
          (fun b hb => by omega) (fun b hb _ => set3_heap _ _ _ _ _ _ (by omega)) (parted2 HT1'.out HT2.out (by intro b hb; omega) (by intro b hb; omega) (by intro b hb; omega)) (fun b hb => by rw [set3_size]; omega) (by rw [set3_size]; omega) (by simp)
        rw [set3_size, ← hW] at h
        exact h
      unfold set3 at hW
      rw [← hW]
      have HX := Lib.hid (And.intro hWR (And.intro hWO hWT))
      obtain ⟨x0, x1, x2, f0, f1, f2⟩ := hWK.three
      obtain ⟨y0, y1, y2, g0, g1, g2⟩ := hWB.three
      clear hW hWK hWB hWR hWO hWT HK5 HB5 HE5 HT1' HT2
      go_wp2_with fail
      refine bodyPost_ret (v := .agg #[.int .i64 2, .int .i64 0, .slice (some ⟨w5.heap.size, 0, none⟩) 2 2]) (by simp [results, Tryd.results14, go_sem, x0, x1, x2]) rfl ?_
      exact anyEnd (t := .mk 2 0 [t1, t2]) hgl HX.out.1 HX.out.2.1 HX.out.2.2 (by intro b hb; exact hb) (by simp [T.k, i64ok]) (by simp [T.n, i64ok]) (by simp only [T.nodes, nodesL]; omega) (by omega) (by omega)
    · have h2b : (q == 2) = false := by simpa using h2
      obtain ⟨x0, x1, x2, f0, f1, f2⟩ := HK3.out.three
      obtain ⟨y0, y1, y2, g0, g1, g2⟩ := HB3.out.three
      clear h0 h1 h2
      obtain ⟨i0, hi, hz0, hz1, hz2⟩ := info_parts infoTask
      have HI := Lib.hid (And.intro hi (And.intro hz0 (And.intro hz1 hz2)))
      clear hi hz0 hz1 hz2
      have hlen : t.ps.length ≤ 1000000 := by have := t.nodes_eq; have := nodesL_ge t.ps; omega
      go_wp2_with (at_builtin; refine wpList_append_ow _ rfl (.tmp 33) (.tmp 35) 23 25 rfl i0 _ Tryd.underlying23 HI.out.1 HI.out.2.1 HI.out.2.2.1 HI.out.2.2.2 rfl (fun b => w.heap.size + 1 ≤ b ∧ b < w1.heap.size) (fun _ => False) t.ps a c rfl (HT3.out.alloc _) hlen ⟨w3.heap.size, 0, none⟩ 1 rfl (.mk 0 1 []) none 0 ?_ ?_ ?_ OwS.nil ?_ ?_ ?_ ?_)
      · intro j u hj
        rw [add0, World.cell?_alloc_new, ← hj]; simp [T.k, T.n, T.ps]
      · simp [T.k, i64ok]
      · simp [T.n, i64ok]
      · intro b _ h; exact h
      · intro b hb; simp; omega
      · intro b hb; exact hb.elim
      intro v' w4 hgr
      obtain ⟨a4, c4, rfl, hat4, hsz4, hkeep, hos, htape, hout⟩ := hgr
      simp only [World.size_alloc] at hsz4 hkeep hat4
      have hhead := fun x hx => HT3.out.head x hx
      have hK4 : Blk w4 w.heap.size 25 #[.int .i64 0, .int .i64 0, .slice none 0 0] :=
        (hkeep _ (by omega) (fun x hx => by have := hhead x hx; omega)).trans (HK3.out.alloc _)
      have hB4 : Blk w4 w1.heap.size 25 #[.int .i64 t.k, .int .i64 t.n, .slice a t.ps.length c] :=
        (hkeep _ (by omega) (fun x hx => by have := hhead x hx; omega)).trans (HB3.out.alloc _)
      have hR4 : RdAt w4 g (p' + 1 + 1) := (HE3.out.1.alloc (.cells #[.int .i64 0, .int .i64 1, .slice none 0 0] 25)).keep fun k hk => hkeep k (by omega) (fun x hx => by have := hhead x hx; omega)
      have hO4 : Only g w w4 := by
        have h3 := HE3.out.2.alloc (.cells #[.int .i64 0, .int .i64 1, .slice none 0 0] 25)
        exact ⟨hos.trans h3.os, htape.trans h3.tape, hout.trans h3.output, by omega, fun k hk hne => (hkeep k (by omega) (fun x hx => by have := hhead x hx; omega)).trans (h3.block k hk hne)⟩
      have hT4 : OwS w4 25 (fun b => w.heap.size < b ∧ b ≠ w1.heap.size ∧ b < w4.heap.size) (t.ps ++ [.mk 0 1 []]) a4 c4 := hat4.tight.weaken (fun b hb => by
        obtain ⟨h1 | h1 | h1, h2⟩ := hb
        · omega
        · exact h1.elim
        · omega)
      have HK4 := Lib.hid hK4
      have HB4 := Lib.hid hB4
      have HX4 := Lib.hid (And.intro hR4 (And.intro hO4 hT4))
      have hz4 : w1.heap.size < w4.heap.size := by omega
      clear hK4 hB4 hR4 hO4 hT4 hat4 hkeep hhead HK3 HB3 HE3 HT3 HI hos htape hout x0 x1 x2 f0 f1 f2 y0 y1 y2 g0 g1 g2
      obtain ⟨y0, y1, y2, g0, g1, g2⟩ := HB4.out.three
      go_upto_region 11 with (fail)
      clear y0 y1 y2 g0 g1 g2
      obtain ⟨W, hW⟩ : ∃ W, W = w4.setCell ⟨w1.heap.size, 2, none⟩ (.slice a4 (t.ps.length + 1) c4) := ⟨_, rfl⟩
      have hWsz : W.heap.size = w4.heap.size := by rw [hW]; simp [World.setCell]
      have hWK : Blk W w.heap.size 25 #[.int .i64 0, .int .i64 0, .slice none 0 0] := by rw [hW]; exact HK4.out.far (by simp; omega) _
      have hWB : Blk W w1.heap.size 25 #[.int .i64 t.k, .int .i64 t.n, .slice a4 (t.ps.length + 1) c4] := by rw [hW]; have := HB4.out.set_ 2 (.slice a4 (t.ps.length + 1) c4); simpa using this
      have hWR : RdAt W g (p' + 1 + 1) := by rw [hW]; exact HX4.out.1.keep fun k hk => Below.heap_setCell _ _ _ _ (by simp; omega)
      have hWO : Only g w W := by rw [hW]; exact HX4.out.2.1.set (.inr (by simp; omega)) _
      have hWT : OwS W 25 (fun b => w.heap.size < b ∧ b < W.heap.size) (t.ps ++ [.mk 0 1 []]) a4 c4 := by
        have h := (HX4.out.2.2.setCell (p := ⟨w1.heap.size, 2, none⟩) (by intro b hb; exact hb.2.1) (.slice a4 (t.ps.length + 1) c4)).weaken (F' := fun b => w.heap.size < b ∧ b < w4.heap.size) (fun b hb => ⟨hb.1, hb.2.2⟩)
        rw [← hW] at h
        rw [hWsz]; exact h
      rw [← hW]
      have HX := Lib.hid (And.intro hWR (And.intro hWO hWT))
      obtain ⟨x0, x1, x2, f0, f1, f2⟩ := hWK.three
      obtain ⟨y0, y1, y2, g0, g1, g2⟩ := hWB.three
      clear hW hWK hWB hWR hWO hWT HK4 HB4 HX4
      go_wp2_with fail
      refine bodyPost_ret (v := .agg #[.int .i64 t.k, .int .i64 t.n, .slice a4 (t.ps.length + 1) c4]) (by simp [results, Tryd.results14, go_sem, x0, x1, x2]) rfl ?_
      have hfin := anyEnd (d := 400) (t := .mk t.k t.n (t.ps ++ [.mk 0 1 []])) hgl HX.out.1 HX.out.2.1 HX.out.2.2 (by intro b hb; exact hb) HOK.out.1 HOK.out.2 (by have := t.nodes_eq; have := nodesL_append t.ps [.mk 0 1 []]; simp only [T.nodes, nodesL] at *; omega) (show p ≤ p' + 1 + 1 by omega) (by omega)
      simp only [T.k, T.n, T.ps, List.length_append, List.length_cons, List.length_nil, Nat.zero_add] at hfin
      exact hfin
  · have hzb : (r == 0) = false := by simpa using hz
    clear hz
    go_wp2_with fail
    refine bodyPost_ret (v := .agg #[.int .i64 t.k, .int .i64 t.n, .slice a t.ps.length c]) (by simp [results, Tryd.results14, go_sem, x0, x1, x2]) rfl ?_
    exact anyEnd hgl HE2.out.1 HE2.out.2 HT2.out (by intro b hb; omega) HOK.out.1 HOK.out.2 (by omega) (by omega) (by omega)

end Go.Proofs.YtgcjnhlppapfdaaDoor
