/- the walk of laws.FnTaskOk -/
import Derived.Test.YtffnkdcnbpoefaaDoorDraw4
import Derived.Test.YtffnkdcnbpoefaaDoorTextI
namespace Go.Proofs.YtffnkdcnbpoefaaDoor
open Go.RowKit

theorem txt_ne (t : T) : (!(⟨t.txt.toArray⟩ : ByteArray).toList.isEmpty) = t.ok := by
  rw [ByteArray.toList_mk]
  cases hv : t.ok
  · simp [T.txt, hv]
  · have h : t.txt = t.text := by simp [T.txt, hv]
    have hp := text_pos t
    rw [h]
    cases ht : t.text with
    | nil => rw [ht] at hp; simp at hp
    | cons a l => rfl

set_option maxHeartbeats 1000000 in
theorem walk_taskOk (w : World) (a : Option Addr) (n c : Nat) (h : CodeAt w a n c) :
    Calls Tryd.prog 3 #[.slice a n c] w fun e w' => e = .returned (.bool true) ∧ Below w.heap.size w w' := by
  have hn := h.1
  have hc := h.2.1
  have HC := Lib.hid h
  clear h
  by_cases hl : 1048576 < n
  · go_enter Tryd.func3, Tryd.ntmps3
    go_wp2_with fail
    go_ret
    exact ⟨rfl, Below.refl _ _⟩
  go_enter Tryd.func3, Tryd.ntmps3
  go_wp2_with fail
  refine (drawTaskOk_any _ a n c HC.out).mono ?_
  rintro e w1 ⟨t, a1, c1, rfl, hat, ok1, ok2, hm, hb⟩
  have hsz1 := hb.size
  have HT1 := Lib.hid (hat.at.alloc (.cells #[.int .i64 t.k, .int .i64 t.n, .slice a1 t.ps.length c1] 25))
  have HB1 := Lib.hid (Blk.new w1 25 #[.int .i64 t.k, .int .i64 t.n, .slice a1 t.ps.length c1])
  have HX1 := Lib.hid (hb.alloc hsz1 (.cells #[.int .i64 t.k, .int .i64 t.n, .slice a1 t.ps.length c1] 25))
  have hnl : nodesL t.ps ≤ 1048576 := by have := t.nodes_eq; omega
  have hlen : t.ps.length ≤ 1048576 := by have := nodesL_ge t.ps; omega
  clear hat hb HC ok1 ok2
  go_wp2_with fail
  refine (implOk_any t _ _ a1 c1 HT1.out).mono ?_
  rintro e w2 ⟨rfl, hb⟩
  have hsz2 := hb.size
  simp only [World.size_alloc] at hsz2
  have HT2 := Lib.hid (HT1.out.below hb)
  have HB2 := Lib.hid (HB1.out.below hb (by simp))
  have HX2 := Lib.hid (HX1.out.trans (hb.mono (by simp; omega)))
  clear hb HT1 HB1 HX1
  obtain ⟨x0, x1, x2, f0, f1, f2⟩ := HB2.out.three
  go_wp2_with fail
  refine (specOk_any t _ _ a1 c1 HT2.out hnl).mono ?_
  rintro e w3 ⟨rfl, hb⟩
  have hsz3 := hb.size
  have HT3 := Lib.hid (HT2.out.below hb)
  have HB3 := Lib.hid (HB2.out.below hb (by omega))
  have HX3 := Lib.hid (HX2.out.trans (hb.mono (by omega)))
  clear hb HT2 HB2 HX2 x0 x1 x2 f0 f1 f2
  have hne : (t.ok != t.ok) = false := by simp
  obtain ⟨s, hs⟩ : ∃ s : ByteArray, (⟨t.txt.toArray⟩ : ByteArray) = s := ⟨_, rfl⟩
  have hsv : sv t.txt = .string s := by rw [← hs]; rfl
  have hse : (!s.toList.isEmpty) = t.ok := by rw [← hs]; exact txt_ne t
  have HSV := Lib.hid hsv
  have HSE := Lib.hid hse
  clear hs hsv hse
  obtain ⟨x0, x1, x2, f0, f1, f2⟩ := HB3.out.three
  go_wp2_with fail
  refine (implText_any t _ _ a1 c1 HT3.out).mono ?_
  rintro e w4 ⟨rfl, hb⟩
  rw [HSV.out]
  have HX4 := Lib.hid (HX3.out.trans (hb.mono (by omega)))
  clear hb x0 x1 x2 f0 f1 f2 hne
  have hee : (t.ok == t.ok) = true := by simp
  go_wp2_with fail
  go_ret
  exact ⟨by simp [← HSE.out], HX4.out⟩
end Go.Proofs.YtffnkdcnbpoefaaDoor
