/- the walk of laws.FnTaskRead -/
import Derived.Test.YtgcjnhlppapfdaaDoorDrawR
import Derived.Test.YtgcjnhlppapfdaaDoorSrX
import Derived.Test.YtgcjnhlppapfdaaDoorBr
import Derived.Test.YtgcjnhlppapfdaaDoorLawDText
namespace Go.Proofs.YtgcjnhlppapfdaaDoor
open Go.RowKit

theorem atS_nil (w : World) (S : Nat → Prop) : AtS w S [] none 0 := ⟨by simp, by omega, .inl rfl⟩

set_option maxHeartbeats 2000000 in
theorem walk_taskRead (w : World) (a : Option Addr) (n c : Nat) (h : CodeAt w a n c) :
    Calls Tryd.prog 4 #[.slice a n c] w fun e w' => e = .returned (.bool true) ∧ Below w.heap.size w w' := by
  have hn := h.1
  have hc := h.2.1
  have HC := Lib.hid h
  clear h
  by_cases hl : 1048576 < n
  · go_enter Tryd.func4, Tryd.ntmps4
    go_wp2_with fail
    go_ret
    exact ⟨rfl, Below.refl _ _⟩
  go_enter Tryd.func4, Tryd.ntmps4
  go_wp2_with fail
  refine (drawRead_any _ a n c HC.out).mono ?_
  rintro e w1 ⟨s, rfl, hsz, hb⟩
  have hs1 := hb.size
  have HX1 := Lib.hid hb
  clear hb HC
  go_wp2_with fail
  refine (read_any _ s hsz).mono ?_
  rintro e w2 ⟨hb, hm⟩
  have hs2 := hb.size
  have HX2 := Lib.hid (HX1.out.trans (hb.mono (by omega)))
  clear hb HX1
  cases hr : readP s with
  | none =>
    rw [hr] at hm
    subst hm
    have HR := Lib.hid hr
    have HB2 := Lib.hid (Blk.new w2 25 #[.int .i64 0, .int .i64 0, .slice none 0 0])
    have HX2' := Lib.hid (HX2.out.alloc (by omega) (.cells #[.int .i64 0, .int .i64 0, .slice none 0 0] 25))
    clear hr HX2
    go_wp2_with fail
    refine (specRead_any _ s hsz).mono ?_
    rw [readS_eq, HR.out]
    rintro e w3 ⟨hb, rfl⟩
    have hs3 := hb.size
    simp only [World.size_alloc] at hs3
    have HX3 := Lib.hid ((HX2'.out.trans (hb.mono (by simp; omega))).alloc (by omega) (.cells #[.int .i64 0, .int .i64 0, .slice none 0 0] 25))
    have hb3 := HB2.out.below hb (by simp)
    obtain ⟨x0, x1, x2, f0, f1, f2⟩ := hb3.three
    have hlt3 : w2.heap.size < w3.heap.size := by omega
    have hlt3' : w2.heap.size ≠ w3.heap.size := by omega
    clear hb hb3 HX2' HB2
    go_wp2_with fail
    refine (brT_all (.mk 0 0 []) _ (fun _ => True) (fun _ => True) none none 0 0 (atS_nil _ _) (atS_nil _ _)).mono ?_
    rintro e w4 ⟨rfl, hb⟩
    have HX4 := Lib.hid (HX3.out.trans (hb.mono (by simp; omega)))
    have e1 : (false != false) = false := rfl
    clear hb HX3 x0 x1 x2 f0 f1 f2
    go_wp2_with fail
    go_ret
    exact ⟨rfl, HX4.out⟩
  | some t =>
    rw [hr] at hm
    obtain ⟨a2, c2, rfl, hat⟩ := hm
    have HR := Lib.hid hr
    obtain ⟨htx, hok⟩ := readP_text hr
    have htxt : sv t.txt = .string s := by rw [htx]; unfold T.txt; rw [if_pos hok]; rfl
    have HTX := Lib.hid htxt
    have HB2 := Lib.hid (Blk.new w2 25 #[.int .i64 t.k, .int .i64 t.n, .slice a2 t.ps.length c2])
    have HX2' := Lib.hid (HX2.out.alloc (by omega) (.cells #[.int .i64 t.k, .int .i64 t.n, .slice a2 t.ps.length c2] 25))
    have HT2 := Lib.hid (hat.alloc (.cells #[.int .i64 t.k, .int .i64 t.n, .slice a2 t.ps.length c2] 25))
    clear hr HX2 hat htx hok htxt
    go_wp2_with fail
    refine (specRead_any _ s hsz).mono ?_
    rw [readS_eq, HR.out]
    rintro e w3 ⟨hb, a3, c3, rfl, hat⟩
    have hs3 := hb.size
    simp only [World.size_alloc] at hs3
    have HX3 := Lib.hid ((HX2'.out.trans (hb.mono (by simp; omega))).alloc (by omega) (.cells #[.int .i64 t.k, .int .i64 t.n, .slice a3 t.ps.length c3] 25))
    have HT3 := Lib.hid ((HT2.out.below hb).alloc (.cells #[.int .i64 t.k, .int .i64 t.n, .slice a3 t.ps.length c3] 25))
    have HU3 := Lib.hid (hat.alloc (.cells #[.int .i64 t.k, .int .i64 t.n, .slice a3 t.ps.length c3] 25))
    have hb3 := HB2.out.below hb (by simp)
    have HB3 := Lib.hid (hb3.alloc (.cells #[.int .i64 t.k, .int .i64 t.n, .slice a3 t.ps.length c3] 25))
    obtain ⟨x0, x1, x2, f0, f1, f2⟩ := hb3.three
    have hlt3 : w2.heap.size < w3.heap.size := by omega
    have hlt3' : w2.heap.size ≠ w3.heap.size := by omega
    clear hb hb3 hat HX2' HB2 HT2
    go_wp2_with fail
    refine (brT_all t _ _ _ a2 a3 c2 c3 HT3.out HU3.out).mono ?_
    rintro e w4 ⟨rfl, hb⟩
    have hs4 := hb.size
    simp only [World.size_alloc] at hs4
    have HX4 := Lib.hid (HX3.out.trans (hb.mono (by simp; omega)))
    have HT4 := Lib.hid (HT3.out.below hb)
    obtain ⟨x0, x1, x2, f0, f1, f2⟩ := (HB3.out.below hb (by simp; omega)).three
    have e1 : (true != true) = false := rfl
    clear hb HX3 HT3 HU3 HB3
    go_wp2_with fail
    refine (implText_any t _ _ a2 c2 HT4.out).mono ?_
    rw [HTX.out]
    rintro e w5 ⟨rfl, hb⟩
    have HX5 := Lib.hid (HX4.out.trans (hb.mono (by omega)))
    have hss : (s == s) = true := by have := bne_same s; simpa [bne] using this
    clear hb HX4
    go_wp2_with fail
    go_ret
    exact ⟨rfl, HX5.out⟩
end Go.Proofs.YtgcjnhlppapfdaaDoor
