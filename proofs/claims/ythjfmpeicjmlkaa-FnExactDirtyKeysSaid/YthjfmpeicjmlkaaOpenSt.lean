/- a state that came in as an argument, opened -/
import Derived.Test.YthjfmpeicjmlkaaTr1
import Derived.Test.YthjfmpeicjmlkaaBs2
import Derived.Test.YthjfmpeicjmlkaaBs1
import Derived.Test.YthjfmpeicjmlkaaSt
namespace Go.Proofs.Ythjfmpeicjmlkaa
open Go.ChangeShapes Go.WideShapes Go.ChangeAt Go.RowKit Go.Joins

theorem cellsStateX : Try.prog.cellsOf 45 = 4 := by kernel_rfl
/-- A list of numbers inside what came in, opened. -/
theorem open_il {H : Type} {enc : TypeId × Value → H} {P : Program} {w : World} {spare : Nat → Bool} {held : Bool} {tS tE : TypeId} {fuel : Nat} (hS : P.underlying tS = some (.slice tE)) (hE : P.underlying tE = some (.int .i64)) (hC : P.cellsOf tE = 1)
    {v : Value} {x : DataW H × List MemPlace} (h : DataW.trod enc P w 0 spare held fuel tS [v] = some x) : ∃ (l : List Int) (a : Option Addr) (c : Nat), v = .slice a l.length c ∧ IntsAt w (fun _ => True) l a c := by
  rcases open_ints hS hE hC h with ⟨hcs, _⟩ | ⟨a', n, c, zs, hcs, _, hl, hm, hz, _, hcell, hwz⟩
  · simp only [List.cons.injEq, and_true] at hcs
    exact ⟨[], none, 0, by simpa using hcs, IntsAt.nil (by omega)⟩
  · simp only [List.cons.injEq, and_true] at hcs
    subst hcs
    have hm' : c ≤ 9223372036854775807 := hm
    have hzl : n ≤ zs.length := by rw [hz]; split <;> omega
    have hlen : (zs.take n).length = n := by simp; omega
    by_cases h0 : n = 0
    · subst h0
      exact ⟨[], _, _, rfl, IntsAt.nil hm'⟩
    obtain ⟨b, o, rfl, hc⟩ := ints_at hcell (by omega)
    refine ⟨zs.take n, _, _, by rw [hlen], by rw [hlen]; exact hl, hm', fun x hx => i64ok_of (hwz x (List.mem_of_mem_take hx)), .inr ⟨b, o, rfl, trivial, fun i hi => ?_⟩⟩
    have hi' : i < zs.length := by rw [hlen] at hi; omega
    rw [hc i hi', List.getD_eq_getElem?_getD, List.getElem?_eq_getElem hi']
    simp

set_option maxRecDepth 100000 in
theorem open_st {H : Type} {enc : TypeId × Value → H} {w : World} {held : Bool} {r : Reach} {b0 : Nat} {v : Value} {d : DataW H} {p : List MemPlace}
    (hv : Value.okWide Try.prog w r b0 45 v) (h : DataW.Trod enc Try.prog w 0 (fun _ => true) held 45 v d p) :
    ∃ (s : St) (a1 : Option Addr) (c1 : Nat) (a2 : Option Addr) (c2 : Nat) (a3 : Option Addr) (c3 : Nat) (a4 : Option Addr) (c4 : Nat), v = .agg #[.slice a1 s.v.length c1, .slice a2 s.b.length c2, .slice a3 s.i.length c3, .slice a4 s.t.length c4] ∧ StAt w (fun _ => True) s a1 c1 a2 c2 a3 c3 a4 c4 := by
  obtain ⟨v0, v1, v2, v3, y0, y1, y2, y3, n, rfl, _, _, h0, h1, h2, h3⟩ := open_agg4 Try.underlying45 (by kernel_rfl) cellsStateX hv h
  obtain ⟨l, a1, c1, rfl, hl⟩ := open_il Try.underlying23 Try.underlying3 cellsIntX h0
  obtain ⟨b, a2, c2, rfl, hb⟩ := open_bl Try.underlying40 Try.underlying4 cellsBoolX h1
  obtain ⟨i, a3, c3, rfl, hi⟩ := open_il Try.underlying23 Try.underlying3 cellsIntX h2
  obtain ⟨t, a4, c4, rfl, ht⟩ := open_trs n v3 _ h3
  exact ⟨⟨l, b, i, t⟩, a1, c1, a2, c2, a3, c3, a4, c4, rfl, hl, hb, hi, ht⟩
end Go.Proofs.Ythjfmpeicjmlkaa
