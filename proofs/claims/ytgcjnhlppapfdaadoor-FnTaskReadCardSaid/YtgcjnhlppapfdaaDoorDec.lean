/- l6Dec at small numbers -/
import Derived.Test.YtgcjnhlppapfdaaDoorOwn
import Derived.Deep.RegionWith
import Derived.Deep.RegionLaw
import Derived.Lib.AppendStr
import Derived.BigQuiet
namespace Go.Proofs.YtgcjnhlppapfdaaDoor
open Go.RowKit

/-- A digit. -/
def digB (n : Nat) : UInt8 := UInt8.ofNat (48 + n)
/-- The decimals of a number below 100. -/
def dec (n : Nat) : List UInt8 := if n < 10 then [digB n] else [digB (n / 10), digB (n % 10)]

theorem digB_nat (v : Nat) (h : v < 10) : (digB v).toNat = 48 + v := by simp [digB]; omega

theorem cv1 (v : Nat) (hv : v < 10) (W : World) (g : Nat) (hc : W.cell? ⟨g, 0, none⟩ = some (.int .u8 (48 + v))) :
    (convert 22 9 (.slice (some ⟨g, 0, none⟩) 1 1)).run Tryd.prog W = .ok (.string ⟨#[digB v]⟩) W := by
  have := run_convert_bytes_back (P := Tryd.prog) W 22 9 5 ⟨g, 0, none⟩ 1 [digB v] Tryd.underlying22 Tryd.underlying5 Tryd.underlying9 (fun j hj => by
    obtain rfl : j = 0 := by simpa using hj
    simp only [List.getElem_cons_zero]
    rw [digB_nat v hv]
    simpa [Addr.add] using hc)
  simpa using this

theorem dec1_any (n : Nat) (h : n < 10) (w : World) : Calls Tryd.prog 29 #[.int .i64 n] w fun e w' => e = .returned (.string ⟨(dec n).toArray⟩) ∧ Below w.heap.size w w' := by
  have hcv := cv1 n h
  have hd : (⟨(dec n).toArray⟩ : ByteArray) = ⟨#[digB n]⟩ := by simp [dec, h]
  have HD := Lib.hid hd
  clear hd
  go_enter Tryd.func29, Tryd.ntmps29
  go_wp2_with fail
  go_ret
  exact ⟨by rw [HD.out]; rfl, (Below.refl _ _).alloc (Nat.le_refl _) _⟩

set_option maxHeartbeats 1000000 in
theorem dec_any (n : Nat) (h : n < 100) (w : World) : Calls Tryd.prog 29 #[.int .i64 n] w fun e w' => e = .returned (.string ⟨(dec n).toArray⟩) ∧ Below w.heap.size w w' := by
  by_cases h10 : n < 10
  · exact dec1_any n h10 w
  have hcv := cv1 (n % 10) (by omega)
  rw [Int.natCast_emod] at hcv
  have HC := Lib.hid hcv
  clear hcv
  have hd : (⟨(dec n).toArray⟩ : ByteArray) = ⟨#[digB (n / 10), digB (n % 10)]⟩ := by simp [dec, h10]
  have hd1 : (⟨(dec (n / 10)).toArray⟩ : ByteArray) = ⟨#[digB (n / 10)]⟩ := by simp [dec, show n / 10 < 10 by omega]
  have HD := Lib.hid hd
  have HD1 := Lib.hid hd1
  clear hd hd1
  have q1 : IntKind.i64.wrap ((n : Int) / 10) = (n : Int) / 10 := IntWalk.i64_in _ ⟨by omega, by omega⟩
  have q3 : IntKind.i64.wrap (48 + (n : Int) % 10) = 48 + (n : Int) % 10 := IntWalk.i64_in _ ⟨by omega, by omega⟩
  have q4 : IntKind.u8.wrap (48 + (n : Int) % 10) = 48 + (n : Int) % 10 := IntWalk.u8_in _ ⟨by omega, by omega⟩
  have q2 : (n : Int).tmod 10 = (n : Int) % 10 := Int.tmod_eq_emod_of_nonneg (by omega)
  go_enter Tryd.func29, Tryd.ntmps29
  go_wp2_with fail
  have hcv := HC.out
  go_region_with (go_at_call 29; rw [show ((n : Int) / 10) = ((n / 10 : Nat) : Int) from by omega]; refine (dec1_any (n / 10) (by omega) _).mono ?_; rintro e w1 ⟨rfl, hb⟩; rw [HD1.out]; obtain ⟨hc1, _⟩ := bcell hb)
  all_goals
    clear hcv q1 q2 q3 q4 hc1
    have hbb : Below w.heap.size w w1 := by
      first
        | exact (Below.refl w.heap.size w).drew.trans hb
        | exact (((Below.refl w.heap.size w).alloc (Nat.le_refl _) _).drew).trans (hb.mono (by simp))
        | exact (((Below.refl w.heap.size w).drew.alloc (Nat.le_refl _) _)).trans (hb.mono (by simp))
    have HB := Lib.hid hbb
    clear hb hbb
    go_wp2_with fail
    go_ret
    refine ⟨by rw [HD.out]; rfl, ?_⟩
    first
      | exact HB.out
      | exact HB.out.alloc HB.out.size _

end Go.Proofs.YtgcjnhlppapfdaaDoor
