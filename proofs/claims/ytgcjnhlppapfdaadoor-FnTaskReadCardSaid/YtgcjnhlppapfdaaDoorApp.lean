/- strconv.AppendInt at small numbers -/
import Derived.Test.YtgcjnhlppapfdaaDoorDec
import Derived.WalkLawsBesides
namespace Go.Proofs.YtgcjnhlppapfdaaDoor
open Go.RowKit Go.Lib

/-- Bytes as cells. -/
def bc (l : List UInt8) : List Value := l.map fun b => Value.int .u8 b.toNat
theorem bc_str (l : List UInt8) : strCells ⟨l.toArray⟩ = bc l := by simp [strCells, bc]
theorem bc_append (a b : List UInt8) : bc (a ++ b) = bc a ++ bc b := by simp [bc]

/-- v holds the bytes bs, in memory of the call's own. -/
def Byt (w : World) (base : Nat) (v : Value) (bs : List UInt8) : Prop := w.ownsRow base 5 1 v bs.length (bc bs)

def AppPost (base : Nat) (bs : List UInt8) (v : Value) (w : World) (e : Ending) (w' : World) : Prop := ∃ v', e = .returned v' ∧ Byt w' base v' bs ∧ w.grownBy w' v.ownBlock

theorem dig_ext (n : Nat) (h : n < 10) : (⟨#[48, 49, 50, 51, 52, 53, 54, 55, 56, 57, 97, 98, 99, 100, 101, 102, 103, 104, 105, 106, 107, 108, 109, 110, 111, 112, 113, 114, 115, 116, 117, 118, 119, 120, 121, 122]⟩ : ByteArray).extract n (n + 1) = ⟨(dec n).toArray⟩ := by
  have : ∀ i : Fin 10, (⟨#[48, 49, 50, 51, 52, 53, 54, 55, 56, 57, 97, 98, 99, 100, 101, 102, 103, 104, 105, 106, 107, 108, 109, 110, 111, 112, 113, 114, 115, 116, 117, 118, 119, 120, 121, 122]⟩ : ByteArray).extract i.val (i.val + 1) = ⟨(dec i.val).toArray⟩ := by decide +kernel
  exact this ⟨n, h⟩

set_option maxRecDepth 100000 in
theorem small_ext (n : Nat) (h : n < 100) (h10 : ¬ n < 10) : (⟨#[48, 48, 48, 49, 48, 50, 48, 51, 48, 52, 48, 53, 48, 54, 48, 55, 48, 56, 48, 57, 49, 48, 49, 49, 49, 50, 49, 51, 49, 52, 49, 53, 49, 54, 49, 55, 49, 56, 49, 57, 50, 48, 50, 49, 50, 50, 50, 51, 50, 52, 50, 53, 50, 54, 50, 55, 50, 56, 50, 57, 51, 48, 51, 49, 51, 50, 51, 51, 51, 52, 51, 53, 51, 54, 51, 55, 51, 56, 51, 57, 52, 48, 52, 49, 52, 50, 52, 51, 52, 52, 52, 53, 52, 54, 52, 55, 52, 56, 52, 57, 53, 48, 53, 49, 53, 50, 53, 51, 53, 52, 53, 53, 53, 54, 53, 55, 53, 56, 53, 57, 54, 48, 54, 49, 54, 50, 54, 51, 54, 52, 54, 53, 54, 54, 54, 55, 54, 56, 54, 57, 55, 48, 55, 49, 55, 50, 55, 51, 55, 52, 55, 53, 55, 54, 55, 55, 55, 56, 55, 57, 56, 48, 56, 49, 56, 50, 56, 51, 56, 52, 56, 53, 56, 54, 56, 55, 56, 56, 56, 57, 57, 48, 57, 49, 57, 50, 57, 51, 57, 52, 57, 53, 57, 54, 57, 55, 57, 56, 57, 57]⟩ : ByteArray).extract (n * 2) (n * 2 + 2) = ⟨(dec n).toArray⟩ := by
  have : ∀ i : Fin 100, ¬ i.val < 10 → (⟨#[48, 48, 48, 49, 48, 50, 48, 51, 48, 52, 48, 53, 48, 54, 48, 55, 48, 56, 48, 57, 49, 48, 49, 49, 49, 50, 49, 51, 49, 52, 49, 53, 49, 54, 49, 55, 49, 56, 49, 57, 50, 48, 50, 49, 50, 50, 50, 51, 50, 52, 50, 53, 50, 54, 50, 55, 50, 56, 50, 57, 51, 48, 51, 49, 51, 50, 51, 51, 51, 52, 51, 53, 51, 54, 51, 55, 51, 56, 51, 57, 52, 48, 52, 49, 52, 50, 52, 51, 52, 52, 52, 53, 52, 54, 52, 55, 52, 56, 52, 57, 53, 48, 53, 49, 53, 50, 53, 51, 53, 52, 53, 53, 53, 54, 53, 55, 53, 56, 53, 57, 54, 48, 54, 49, 54, 50, 54, 51, 54, 52, 54, 53, 54, 54, 54, 55, 54, 56, 54, 57, 55, 48, 55, 49, 55, 50, 55, 51, 55, 52, 55, 53, 55, 54, 55, 55, 55, 56, 55, 57, 56, 48, 56, 49, 56, 50, 56, 51, 56, 52, 56, 53, 56, 54, 56, 55, 56, 56, 56, 57, 57, 48, 57, 49, 57, 50, 57, 51, 57, 52, 57, 53, 57, 54, 57, 55, 57, 56, 57, 57]⟩ : ByteArray).extract (i.val * 2) (i.val * 2 + 2) = ⟨(dec i.val).toArray⟩ := by decide +kernel
  exact this ⟨n, h⟩ h10

set_option maxRecDepth 100000 in
theorem small_any (n : Nat) (h : n < 100) (w : World) : Calls Tryd.prog 42 #[.int .i64 n] w fun e w' => e = .returned (.string ⟨(dec n).toArray⟩) ∧ w = w' := by
  by_cases h10 : n < 10
  · have HE := Lib.hid (dig_ext n h10)
    go_enter Tryd.func42, Tryd.ntmps42
    go_wp2_with fail
    go_ret
    exact ⟨by rw [← HE.out]; rfl, rfl⟩
  · have HE := Lib.hid (small_ext n h h10)
    go_enter Tryd.func42, Tryd.ntmps42
    go_wp2_with fail
    go_ret
    exact ⟨congrArg (fun s => Ending.returned (.string s)) HE.out, rfl⟩

theorem dec_len (n : Nat) : (dec n).length ≤ 2 := by unfold dec; split <;> simp

theorem infoByte : (Tryd.prog.info? 5).map (fun i => (i.zero, i.size, i.bytes)) = some (some (.int .u8 0), 1, 1) := by kernel_rfl

theorem appU_any (n : Nat) (h : n < 100) (w : World) (base : Nat) (v : Value) (bs : List UInt8) (hv : Byt w base v bs) (hl : bs.length ≤ 1000000) (hb : base ≤ w.heap.size) :
    Calls Tryd.prog 41 #[v, .int .u64 n, .int .i64 10] w (AppPost base (bs ++ dec n) v w) := by
  obtain ⟨i0, hi, hz0, hz1, hz2⟩ := info_parts infoByte
  have HI := Lib.hid (And.intro hi (And.intro hz0 (And.intro hz1 hz2)))
  have HV := Lib.hid hv
  have hdl := dec_len n
  have hml : maxLen = 9223372036854775807 := rfl
  have hsz : (⟨(dec n).toArray⟩ : ByteArray).size = (dec n).length := by simp [ByteArray.size]
  have HSZ := Lib.hid (And.intro hml hsz)
  clear hi hz0 hz1 hz2 hv hml hsz
  go_enter Tryd.func41, Tryd.ntmps41
  go_wp2_with fail
  refine (small_any n h _).mono ?_
  rintro e w' ⟨rfl, rfl⟩
  go_wp2_with (at_builtin; refine wpList_append_own_string _ rfl (.tmp 13) (.tmp 16) 22 9 rfl base 5 i0 Tryd.underlying22 Tryd.underlying9 HI.out.1 HI.out.2.1 HI.out.2.2.1 HI.out.2.2.2 v bs.length (bc bs) rfl HV.out ⟨(dec n).toArray⟩ rfl ?_ ?_ hb ?_)
  · rw [HSZ.out.1, HSZ.out.2]; omega
  · rw [HSZ.out.2]; omega
  intro v' w' hown hgr _
  have hown' : Byt w' base v' (bs ++ dec n) := by
    unfold Byt
    rw [List.length_append, bc_append, ← bc_str (dec n)]
    exact hown
  have HO := Lib.hid (And.intro hown' hgr)
  clear hown hown' hgr
  go_wp2_with fail
  go_ret
  exact ⟨v', rfl, HO.out.1, HO.out.2⟩

theorem appI_any (n : Nat) (h : n < 100) (w : World) (base : Nat) (v : Value) (bs : List UInt8) (hv : Byt w base v bs) (hl : bs.length ≤ 1000000) (hb : base ≤ w.heap.size) :
    Calls Tryd.prog 37 #[v, .int .i64 n, .int .i64 10] w (AppPost base (bs ++ dec n) v w) := by
  have HV := Lib.hid hv
  clear hv
  go_enter Tryd.func37, Tryd.ntmps37
  go_wp2_with fail
  refine (appU_any n h _ base v bs HV.out hl hb).mono ?_
  rintro e w' ⟨v', rfl, hown, hgr⟩
  have HO := Lib.hid (And.intro hown hgr)
  clear hown hgr
  go_wp2_with fail
  go_ret
  exact ⟨v', rfl, HO.out.1, HO.out.2⟩

theorem app_any (n : Nat) (h : n < 100) (w : World) (base : Nat) (v : Value) (bs : List UInt8) (hv : Byt w base v bs) (hl : bs.length ≤ 1000000) (hb : base ≤ w.heap.size) :
    Calls Tryd.prog 26 #[v, .int .i64 n, .int .i64 10] w (AppPost base (bs ++ dec n) v w) := by
  have HV := Lib.hid hv
  clear hv
  go_enter Tryd.func26, Tryd.ntmps26
  go_wp2_with fail
  refine (appI_any n h _ base v bs HV.out hl hb).mono ?_
  rintro e w' ⟨v', rfl, hown, hgr⟩
  have HO := Lib.hid (And.intro hown hgr)
  clear hown hgr
  go_wp2_with fail
  go_ret
  exact ⟨v', rfl, HO.out.1, HO.out.2⟩

end Go.Proofs.YtgcjnhlppapfdaaDoor
