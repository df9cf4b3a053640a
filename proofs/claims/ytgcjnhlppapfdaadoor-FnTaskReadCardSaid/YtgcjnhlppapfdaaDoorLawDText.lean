/- the walk of laws.FnTaskText -/
import Derived.Test.YtgcjnhlppapfdaaDoorDraw4
import Derived.Test.YtgcjnhlppapfdaaDoorTextI
import Derived.Test.YtgcjnhlppapfdaaDoorRound
import Derived.Test.YtgcjnhlppapfdaaDoorRdA
import Derived.Test.YtgcjnhlppapfdaaDoorBr
namespace Go.Proofs.YtgcjnhlppapfdaaDoor
open Go.RowKit

theorem bne_same (s : ByteArray) : (s != s) = false := by
  have : (s == s) = true := by
    cases s with | mk d =>
      show (d == d) = true
      simp
  simp [bne, this]

theorem at_arr (l : List UInt8) (i : Nat) (h : i < l.length) : at_ ⟨l.toArray⟩ i = l[i].toNat := by
  have hs : i < (⟨l.toArray⟩ : ByteArray).size := by simpa [ByteArray.size] using h
  rw [← at_lt hs]
  rfl
theorem at_end (l : List UInt8) (i : Nat) (h : l.length ≤ i) : at_ ⟨l.toArray⟩ i = 256 := by
  unfold at_
  rw [dif_neg (by simpa [ByteArray.size] using h)]
theorem read_text (t : T) : readP ⟨t.txt.toArray⟩ = if t.ok = true then some t else none := by
  cases hv : t.ok
  · have hx : t.txt = [] := by simp [T.txt, hv]
    rw [hx, if_neg (by decide)]
    have h0 : at_ ⟨([] : List UInt8).toArray⟩ 0 = 256 := at_end [] 0 (by simp)
    unfold readP taskP
    rw [if_neg (by omega), if_neg (by rw [h0]; decide), if_neg (by rw [h0]; decide), numAt_no 96 (by rw [h0]; decide)]
  · have hx : t.txt = t.text := by simp [T.txt, hv]
    rw [hx, if_pos rfl]
    have hfn : t.fit = true ∧ t.nodes ≤ 15 := by simpa [T.ok] using hv
    have h := round_all t ⟨t.text.toArray⟩ 15 15 0 hfn.1 hfn.2 (Nat.le_refl _) (fun i hi => by rw [Nat.zero_add]; exact at_arr _ i hi) (by rw [at_end _ _ (by omega)]; decide)
    unfold readP
    rw [h]
    simp [ByteArray.size]

set_option maxHeartbeats 2000000 in
theorem walk_taskText (w : World) (a : Option Addr) (n c : Nat) (h : CodeAt w a n c) :
    Calls Tryd.prog 3 #[.slice a n c] w fun e w' => e = .returned (.bool true) ∧ Below w.heap.size w w' := by
  have hn := h.1
  have hc := h.2.1
  have HC := Lib.hid h
  clear h
  by_cases hl : 1048576 < n
  · go_enter Tryd.func3, Tryd.ntmps3
    go_wp2_with fail
    go_ret
    exact ⟨rfl, Below.refl _ _⟩
  go_enter Tryd.func3, Tryd.ntmps3
  go_wp2_with fail
  refine (drawTaskText_any _ a n c HC.out).mono ?_
  rintro e w1 ⟨t, a1, c1, rfl, hat, ok1, ok2, hm, hb⟩
  have hsz1 := hb.size
  have HT1 := Lib.hid (hat.at.alloc (.cells #[.int .i64 t.k, .int .i64 t.n, .slice a1 t.ps.length c1] 25))
  have HB1 := Lib.hid (Blk.new w1 25 #[.int .i64 t.k, .int .i64 t.n, .slice a1 t.ps.length c1])
  have HX1 := Lib.hid (hb.alloc hsz1 (.cells #[.int .i64 t.k, .int .i64 t.n, .slice a1 t.ps.length c1] 25))
  have hnl : nodesL t.ps ≤ 1048576 := by have := t.nodes_eq; omega
  have hlen : t.ps.length ≤ 1048576 := by have := nodesL_ge t.ps; omega
  have htl : t.txt.length ≤ 1048576 := by have := text_len t; unfold T.txt; split <;> simp <;> omega
  obtain ⟨s, hs, hsz⟩ := named t.txt 1048576 htl
  have hrt : readP s = if t.ok = true then some t else none := by rw [← hs]; exact read_text t
  have hsv : sv t.txt = .string s := by rw [← hs]; rfl
  have HSV := Lib.hid hsv
  have HRT := Lib.hid hrt
  clear hat hb HC ok1 ok2 hs hrt hsv htl
  go_wp2_with fail
  refine (implText_any t _ _ a1 c1 HT1.out).mono ?_
  rintro e w2 ⟨rfl, hb⟩
  rw [HSV.out]
  have hsz2 := hb.size
  simp only [World.size_alloc] at hsz2
  have HT2 := Lib.hid (HT1.out.below hb)
  have HB2 := Lib.hid (HB1.out.below hb (by simp))
  have HX2 := Lib.hid (HX1.out.trans (hb.mono (by simp; omega)))
  clear hb HT1 HB1 HX1
  obtain ⟨x0, x1, x2, f0, f1, f2⟩ := HB2.out.three
  go_wp2_with fail
  refine (specText_any t _ _ a1 c1 HT2.out hnl).mono ?_
  rintro e w3 ⟨rfl, hb⟩
  rw [HSV.out]
  have hsz3 := hb.size
  have HT3 := Lib.hid (HT2.out.below hb)
  have HB3 := Lib.hid (HB2.out.below hb (by omega))
  have HX3 := Lib.hid (HX2.out.trans (hb.mono (by omega)))
  clear hb HT2 HB2 HX2 x0 x1 x2 f0 f1 f2
  have hne : (s != s) = false := bne_same s
  go_wp2_with fail
  clear hne
  refine (read_any _ s hsz).mono ?_
  rintro e w4 ⟨hb, hm⟩
  have hsz4 := hb.size
  have HT4 := Lib.hid (HT3.out.below hb)
  have HB4 := Lib.hid (HB3.out.below hb (by omega))
  have HX4 := Lib.hid (HX3.out.trans (hb.mono (by omega)))
  clear hb HT3 HB3 HX3
  rw [HRT.out] at hm
  cases hok : t.ok
  · rw [hok, if_neg (by decide)] at hm
    subst hm
    have HOK := Lib.hid hok
    clear hok
    obtain ⟨x0, x1, x2, f0, f1, f2⟩ := HB4.out.three
    have hlt4 : w1.heap.size < w4.heap.size := by omega
    go_wp2_with fail
    refine (implOk_any t _ _ a1 c1 (HT4.out.alloc _)).mono ?_
    rintro e w5 ⟨rfl, hb⟩
    rw [HOK.out]
    have HX5 := Lib.hid ((HX4.out.alloc (by omega) _).trans (hb.mono (by simp; omega)))
    clear hb x0 x1 x2 f0 f1 f2
    have e1 : (false == false) = true := rfl
    go_wp2_with fail
    go_ret
    exact ⟨rfl, HX5.out⟩
  · rw [hok, if_pos rfl] at hm
    obtain ⟨a2, c2, rfl, hat⟩ := hm
    have HOK := Lib.hid hok
    have HU4 := Lib.hid (hat.alloc (.cells #[.int .i64 t.k, .int .i64 t.n, .slice a2 t.ps.length c2] 25))
    have HV4 := Lib.hid (Blk.new w4 25 #[.int .i64 t.k, .int .i64 t.n, .slice a2 t.ps.length c2])
    clear hok hat
    obtain ⟨x0, x1, x2, f0, f1, f2⟩ := HB4.out.three
    have hlt4 : w1.heap.size < w4.heap.size := by omega
    go_wp2_with fail
    refine (implOk_any t _ _ a1 c1 (HT4.out.alloc _)).mono ?_
    rintro e w5 ⟨rfl, hb⟩
    rw [HOK.out]
    have hsz5 := hb.size
    simp only [World.size_alloc] at hsz5
    have HT5 := Lib.hid ((HT4.out.alloc _).below hb)
    have HU5 := Lib.hid (HU4.out.below hb)
    obtain ⟨y0, y1, y2, g0, g1, g2⟩ := (HV4.out.below hb (by simp)).three
    have HX5 := Lib.hid ((HX4.out.alloc (by omega) _).trans (hb.mono (by simp; omega)))
    have hbk := (HB4.out.alloc (.cells #[.int .i64 t.k, .int .i64 t.n, .slice a2 t.ps.length c2] 25)).below hb (by simp; omega)
    clear hb x0 x1 x2 f0 f1 f2
    obtain ⟨x0, x1, x2, f0, f1, f2⟩ := hbk.three
    clear hbk
    have e1 : (true == true) = true := rfl
    go_wp2_with fail
    refine (brT_all t _ _ _ a2 a1 c2 c1 HU5.out HT5.out).mono ?_
    rintro e w6 ⟨rfl, hb⟩
    have HX6 := Lib.hid (HX5.out.trans (hb.mono (by omega)))
    clear hb
    go_wp2_with fail
    go_ret
    exact ⟨rfl, HX6.out⟩
end Go.Proofs.YtgcjnhlppapfdaaDoor
