/- impl.isMade, impl.hasKeys, impl.madeOf, impl.allBuilt; spec.l4Keys -/
import Derived.Test.YtjbggeeadodmpaaAllI
import Derived.Test.YtjbggeeadodmpaaBs2
import Derived.Test.YtjbggeeadodmpaaMapB
import Derived.WalkSpells
namespace Go.Proofs.Ytjbggeeadodmpaa
open Go.RowKit

theorem md_cell {s : Sh} {w : World} {S : Nat → Prop} {a : Option Addr} {c : Nat} {a' : Option Addr} {c' : Nat} (h : ShAt w S s a c a' c') {k : Nat} (hk : k < s.m.length) : ∃ b o, a = some ⟨b, o, none⟩ ∧ b < w.heap.size ∧ w.cell? ⟨b, o + k, none⟩ = some (.bool (s.mdI (k : Int))) := by
  obtain ⟨b, o, ha, hb, _, hc⟩ := ElAt.get h.1 (Below.refl _ _) hk
  refine ⟨b, o, ha, hb, ?_⟩
  rw [mdI_nat]
  unfold Sh.md
  rw [getD_len hk]
  exact hc

set_option maxHeartbeats 1000000 in
theorem isMade_any (s : Sh) (w : World) (S : Nat → Prop) (a : Option Addr) (c : Nat) (a' : Option Addr) (c' : Nat) (key : Int) (h : ShAt w S s a c a' c') :
    Calls Try.prog 85 #[.agg #[.slice a s.m.length c, .slice a' s.t.length c'], .int .i64 key] w fun e w' => e = .returned (.bool (s.mdI key)) ∧ Below w.heap.size w w' := by
  have K0 := Lib.hid (Ks.start (ty := 47) h)
  have hlm : s.m.length ≤ 9223372036854775807 := by have := h.1.1; have := h.1.2.1; omega
  clear h
  obtain ⟨x0, x1⟩ := K0.out.box
  cases hk : decide (0 ≤ key ∧ key < s.m.length)
  · have hv : s.mdI key = false := by
      cases hx : s.mdI key
      · rfl
      · have := mdI_bd hx
        rw [decide_eq_true this] at hk
        cases hk
    have HK := Lib.hid hk
    rw [hv]
    clear hk hv
    go_enter Try.func85, Try.ntmps85
    go_wp2_with fail
    refine (hasKey_any s _ S a c a' c' key K0.out.2).mono ?_
    rintro e w1 ⟨rfl, hb⟩
    rw [HK.out]
    have K1 := Lib.hid (K0.out.step hb)
    clear hb x0 x1
    go_wp2_with fail
    go_ret
    exact ⟨rfl, K1.out.done⟩
  · have hk2 : 0 ≤ key ∧ key < s.m.length := by simpa using hk
    obtain ⟨kn, rfl⟩ : ∃ kn : Nat, key = kn := ⟨key.toNat, by omega⟩
    have hkn : kn < s.m.length := by omega
    have HK := Lib.hid hk
    obtain ⟨v, hv⟩ : ∃ v, v = s.mdI (kn : Int) := ⟨_, rfl⟩
    have HV := Lib.hid hv
    rw [← hv]
    clear hk hv hk2
    go_enter Try.func85, Try.ntmps85
    go_wp2_with fail
    refine (hasKey_any s _ S a c a' c' kn K0.out.2).mono ?_
    rintro e w1 ⟨rfl, hb⟩
    rw [HK.out]
    have K1 := Lib.hid (K0.out.step hb)
    clear hb x0 x1
    obtain ⟨x0, x1⟩ := K1.out.box
    obtain ⟨b, o, ha, hbl, hc⟩ := md_cell K1.out.2 hkn
    rw [← HV.out] at hc
    subst ha
    go_wp2_with fail
    go_ret
    exact ⟨rfl, K1.out.done⟩

/-- All numbers are keys. -/
def hkB (s : Sh) (ks : List Int) : Bool := ks.all fun k => decide (0 ≤ k ∧ k < s.m.length)
theorem all_tk {p : Int → Bool} {l : List Int} {k : Nat} (h : k < l.length) : (l.take (k + 1)).all p = ((l.take k).all p && p l[k]) := by
  rw [List.take_succ_eq_append_getElem h, List.all_append]; simp
theorem all_fls {p : Int → Bool} {l : List Int} {k : Nat} (h : k < l.length) (hp : p l[k] = false) : l.all p = false := by
  cases hx : l.all p
  · rfl
  · rw [List.all_eq_true] at hx
    have := hx l[k] (List.getElem_mem h)
    rw [hp] at this; cases this

/-- Those of some keys that are made. -/
def MoPost (s : Sh) (ks : List Int) (w : World) (e : Ending) (w' : World) : Prop := ∃ v, e = .returned v ∧ NumRow w' w.heap.size v (ks.filter s.mdI) ∧ Below w.heap.size w w'

end Go.Proofs.Ytjbggeeadodmpaa
