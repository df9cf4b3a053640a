/- the closure of impl.fetchFrom fetches; impl.TaskValue, spec.TaskValue -/
import Derived.Test.YtklmpagpkeffjaaReck
import Derived.Test.YtklmpagpkeffjaaL2
import Derived.Test.YtklmpagpkeffjaaOkI
namespace Go.Proofs.Ytklmpagpkeffjaa
open Go.RowKit

/-- The values lie in memory, and the closure's block holds their slice; nothing turns. -/
def FromI (S : Nat → Prop) (lv : List Int) (a : Option Addr) (c g : Nat) (_ : List Int) (D : Nat → Prop) (w : World) : Prop :=
  (∀ b, ¬ D b) ∧ IntsAt w S lv a c ∧ Blk w g 30 #[.slice a lv.length c]

theorem from_fetcher (S : Nat → Prop) (lv : List Int) (a : Option Addr) (c g : Nat) (hv : vok lv = true) : Fetcher 130 #[.pointer (some ⟨g, 0, none⟩)] (vf lv) (FromI S lv a c g) where
  call := by
    rintro ks D w k h0 h9 _ ⟨hD, hl, hb⟩
    refine (fetch_any w S lv a c g hl hb k h0 (by omega)).mono ?_
    rintro e w' ⟨rfl, rfl⟩
    exact ⟨rfl, D, ⟨hD, hl, hb⟩, .of_below (Below.refl _ _), fun b hb => .inl hb⟩
  below := by
    rintro ks D w w' ⟨hD, hl, hb⟩ h
    exact ⟨hD, hl.below h, hb.below h hb.lt⟩
  bd := vf_bd (vok_mem hv).2
  lt := by
    rintro ks D w ⟨hD, _⟩ b hb
    exact absurd hb (hD b)
  enters := enters_of Try.func130 (by kernel_rfl) rfl

theorem fetchFrom_any (w : World) (n c : Nat) (a : Option Addr) : Calls Try.prog 111 #[.slice a n c] w fun e w' => e = .returned (.func (.func 130) #[] #[.pointer (some ⟨w.heap.size, 0, none⟩)]) ∧ w' = w.alloc (.cells #[.slice a n c] 30) := by
  have hmf : ∀ (fn : Fn) (first cap : Array Value) (w : World), (Instr.makeFunc fn first cap).run Try.prog w = .ok (.func fn first cap) w := fun _ _ _ _ => rfl
  go_enter Try.func111, Try.ntmps111
  go_wp2_with fail
  go_ret
  exact ⟨rfl, rfl⟩

/-- The value of a task with values of keys, 0 if there is none. -/
def tvV (t : T) (lv : List Int) : Int := if (t.ok && vok lv) = true then t.val (vf lv) else 0
def TvPost (t : T) (lv : List Int) (w : World) (e : Ending) (w' : World) : Prop := e = .returned (.tuple #[.int .i64 (tvV t lv), .bool (t.ok && vok lv)]) ∧ Below w.heap.size w w'

theorem Fr.below {D : Nat → Prop} {w w' : World} (h : Fr D w w') (hD : ∀ b, ¬ D b) : Below w.heap.size w w' := ⟨h.1, h.2.1, h.2.2.1, h.2.2.2.1, fun b hb => h.2.2.2.2 b hb (hD b)⟩

end Go.Proofs.Ytklmpagpkeffjaa
