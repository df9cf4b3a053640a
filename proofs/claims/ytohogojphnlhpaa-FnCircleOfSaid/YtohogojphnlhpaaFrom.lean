/- the closure of impl.fetchFrom fetches; impl.TaskValue, spec.TaskValue -/
import Derived.Test.YtohogojphnlhpaaReck
import Derived.Test.YtohogojphnlhpaaL2
import Derived.Test.YtohogojphnlhpaaOkI
namespace Go.Proofs.Ytohogojphnlhpaa
open Go.RowKit

/-- The values lie in memory, and the closure's block holds their slice; nothing turns. -/
def FromI (S : Nat → Prop) (lv : List Int) (a : Option Addr) (c g : Nat) (_ : List Int) (D : Nat → Prop) (w : World) : Prop :=
  (∀ b, ¬ D b) ∧ IntsAt w S lv a c ∧ Blk w g 30 #[.slice a lv.length c]

theorem from_fetcher (S : Nat → Prop) (lv : List Int) (a : Option Addr) (c g : Nat) (hv : vok lv = true) : Fetcher 92 #[.pointer (some ⟨g, 0, none⟩)] (vf lv) (FromI S lv a c g) where
  call := by
    rintro ks D w k h0 h9 _ ⟨hD, hl, hb⟩
    refine (fetch_any w S lv a c g hl hb k h0 (by omega)).mono ?_
    rintro e w' ⟨rfl, rfl⟩
    exact ⟨rfl, D, ⟨hD, hl, hb⟩, .of_below (Below.refl _ _), fun b hb => .inl hb⟩
  below := by
    rintro ks D w w' ⟨hD, hl, hb⟩ h
    exact ⟨hD, hl.below h, hb.below h hb.lt⟩
  bd := vf_bd (vok_mem hv).2
  lt := by
    rintro ks D w ⟨hD, _⟩ b hb
    exact absurd hb (hD b)
  enters := enters_of Try.func92 (by kernel_rfl) rfl

theorem fetchFrom_any (w : World) (n c : Nat) (a : Option Addr) : Calls Try.prog 66 #[.slice a n c] w fun e w' => e = .returned (.func (.func 92) #[] #[.pointer (some ⟨w.heap.size, 0, none⟩)]) ∧ w' = w.alloc (.cells #[.slice a n c] 30) := by
  have hmf : ∀ (fn : Fn) (first cap : Array Value) (w : World), (Instr.makeFunc fn first cap).run Try.prog w = .ok (.func fn first cap) w := fun _ _ _ _ => rfl
  go_enter Try.func66, Try.ntmps66
  go_wp2_with fail
  go_ret
  exact ⟨rfl, rfl⟩

/-- The value of a task with values of keys, 0 if there is none. -/
def tvV (t : T) (lv : List Int) : Int := if (t.ok && vok lv) = true then t.val (vf lv) else 0
def TvPost (t : T) (lv : List Int) (w : World) (e : Ending) (w' : World) : Prop := e = .returned (.tuple #[.int .i64 (tvV t lv), .bool (t.ok && vok lv)]) ∧ Below w.heap.size w w'

theorem Fr.below {D : Nat → Prop} {w w' : World} (h : Fr D w w') (hD : ∀ b, ¬ D b) : Below w.heap.size w w' := ⟨h.1, h.2.1, h.2.2.1, h.2.2.2.1, fun b hb => h.2.2.2.2 b hb (hD b)⟩

set_option maxHeartbeats 1000000 in
theorem implValue_any (t : T) (lv : List Int) (w : World) (S S' : Nat → Prop) (a a' : Option Addr) (c c' : Nat) (hat : AtS w S t.ps a c) (hl : IntsAt w S' lv a' c') :
    Calls Try.prog 20 #[.agg #[.int .i64 t.k, .int .i64 t.n, .slice a t.ps.length c], .slice a' lv.length c'] w (TvPost t lv w) := by
  have K0 := Lib.hid (Kp.start (ty := 39) hat.lim)
  have L0 := Lib.hid (hl.alloc (.cells #[.int .i64 t.k, .int .i64 t.n, .slice a t.ps.length c] 39))
  clear hat hl
  cases hv : t.ok
  · have HV := Lib.hid hv
    have hx : TvPost t lv = fun w e w' => e = .returned (.tuple #[.int .i64 0, .bool false]) ∧ Below w.heap.size w w' := by unfold TvPost tvV; simp [hv]
    rw [hx]
    clear hv hx
    go_enter Try.func20, Try.ntmps20
    go_wp2_with fail
    refine (implOk_any t _ _ a c K0.out.2).mono ?_
    rintro e w1 ⟨rfl, hb⟩
    rw [HV.out]
    have K1 := Lib.hid (K0.out.step hb)
    clear hb K0
    go_wp2_with fail
    go_ret2
    exact ⟨rfl, K1.out.done⟩
  cases hu : vok lv
  · have HV := Lib.hid hv
    have HU := Lib.hid hu
    have hx : TvPost t lv = fun w e w' => e = .returned (.tuple #[.int .i64 0, .bool false]) ∧ Below w.heap.size w w' := by unfold TvPost tvV; simp [hu]
    rw [hx]
    clear hv hu hx
    go_enter Try.func20, Try.ntmps20
    go_wp2_with fail
    refine (implOk_any t _ _ a c K0.out.2).mono ?_
    rintro e w1 ⟨rfl, hb⟩
    rw [HV.out]
    have K1 := Lib.hid (K0.out.step hb)
    have L1 := Lib.hid (L0.out.below hb)
    clear hb K0 L0
    go_wp2_with fail
    refine (implVals_any _ S' lv a' c' L1.out).mono ?_
    rintro e w2 ⟨rfl, rfl⟩
    rw [HU.out]
    go_wp2_with fail
    go_ret2
    exact ⟨rfl, K1.out.done⟩
  · have HV := Lib.hid hv
    have HU := Lib.hid hu
    have hfn : t.fit = true ∧ t.nodes ≤ 15 := by simpa [T.ok] using hv
    have HFN := Lib.hid hfn
    obtain ⟨v, hvv⟩ : ∃ v, v = t.val (vf lv) := ⟨_, rfl⟩
    have hx : TvPost t lv = fun w e w' => e = .returned (.tuple #[.int .i64 v, .bool true]) ∧ Below w.heap.size w w' := by unfold TvPost tvV; simp [hv, hu, hvv]
    rw [hx]
    have HVV := Lib.hid hvv
    clear hv hu hx hfn hvv
    go_enter Try.func20, Try.ntmps20
    go_wp2_with fail
    refine (implOk_any t _ _ a c K0.out.2).mono ?_
    rintro e w1 ⟨rfl, hb⟩
    rw [HV.out]
    have K1 := Lib.hid (K0.out.step hb)
    have L1 := Lib.hid (L0.out.below hb)
    clear hb K0 L0
    go_wp2_with fail
    refine (implVals_any _ S' lv a' c' L1.out).mono ?_
    rintro e w2 ⟨rfl, rfl⟩
    rw [HU.out]
    obtain ⟨x0, x1, x2⟩ := K1.out.box
    have hsz := K1.out.1.size
    simp only [World.size_alloc] at hsz
    go_wp2_with fail
    have hn15 := HFN.out.2
    have hlt : w.heap.size < w1.heap.size := by omega
    have hltn : w.heap.size ≠ w1.heap.size := by omega
    go_region_with (first | (go_at_call 66; refine (fetchFrom_any _ _ _ _).mono ?_; rintro e w3 ⟨rfl, rfl⟩) | (go_at_call 65; refine (reck_all (from_fetcher S' lv a' c' w1.heap.size HU.out) t _ _ a c [] (fun _ => False) HFN.out.1 ((K1.out.drew.2).alloc _) (fun b hb => ⟨by simp; omega, id⟩) ⟨fun _ => id, (L1.out.drew).alloc _, Blk.new w1.drew _ _⟩ (by simp; omega)).mono ?_; rintro e w4 ⟨rfl, D', hI, hfr, hd⟩))
    all_goals
      rw [← HVV.out]
      have hbb := hfr.below (fun _ => id)
      have hB := Lib.hid (K1.out.drew.done.trans ((((Below.refl _ _).alloc (Nat.le_refl _) _).trans (hbb.mono (by simp))).mono (by simp; omega)))
      clear hbb hfr hI hd
      go_wp2_with fail
      go_ret2
      exact ⟨rfl, hB.out⟩
end Go.Proofs.Ytohogojphnlhpaa
