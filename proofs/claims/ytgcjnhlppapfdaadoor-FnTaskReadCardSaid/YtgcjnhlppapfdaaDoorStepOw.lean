/- append of one task onto tasks of the call's own: as a run, and as one step of a region that draws -/
import Derived.Test.YtgcjnhlppapfdaaDoorOwn
namespace Go.Proofs.YtgcjnhlppapfdaaDoor
open Go.RowKit

theorem run_append_ow {P : Program} (w : World) (tS ty e : TypeId)
    (i : TypeInfo) (z : Value) (h1 : P.underlying tS = some (.slice e)) (h2 : P.info? e = some i) (h3 : i.zero = some z) (h4 : i.size = 3) (h5 : i.bytes = 40) (h6 : z.cells.size = 3)
    (F F1 : Nat → Prop) (ps : List T) (av : Option Addr) (c : Nat) (how : OwS w e F ps av c) (hlen : ps.length ≤ 1000000)
    (ad : Addr) (cx : Nat) (t : T) (a2 : Option Addr) (c2 : Nat) (hnews : ∀ j u, [Value.int .i64 t.k, .int .i64 t.n, .slice a2 t.ps.length c2][j]? = some u → w.cell? (ad.add j) = some u)
    (ok1 : i64ok t.k) (ok2 : i64ok t.n) (hts : OwS w e F1 t.ps a2 c2) (hd : ∀ b, F b → ¬ F1 b) (hFl : ∀ b, F b → b < w.heap.size) (hF1l : ∀ b, F1 b → b < w.heap.size) :
    ∃ v' w', (Builtin.append_ #[tS, tS] ty #[.slice av ps.length c, .slice (some ad) 1 cx]).run P w = .ok v' w' ∧ Grew w e F F1 ps av t v' w' := by
  obtain ⟨hn, hc, hcase⟩ := how
  have ml : maxLen = 9223372036854775807 := rfl
  have hone : ∀ u ∈ [Value.int .i64 t.k, .int .i64 t.n, .slice a2 t.ps.length c2], u.oneCell' = true := by simp [Value.oneCell']
  rcases hcase with ⟨rfl, rfl, rfl⟩ | ⟨g, cs, rfl, hF, hb, hcs, hl⟩
  · obtain ⟨v', w', hrun, hr, hgr, _⟩ := run_append_own (P := P) w w.heap.size tS ty e i z 3 40 h1 h2 h3 h4 h5 h6 (by omega) (.slice none 0 0) 0 [] (World.ownsRow_nil w _ e 3) ad 1 cx _ (by simp) hnews hone (by omega) (by omega) (Nat.le_refl _)
    exact ⟨v', w', hrun, grew_new (olds := []) (by simp) ⟨0, 0, by simp [OwL], by simp⟩ hFl hF1l ok1 ok2 hts hd (by simpa using hr) (by simpa [Value.ownBlock] using hgr)⟩
  · have hcell : ∀ j u, (cs.toList.take (ps.length * 3))[j]? = some u → w.cell? ((⟨g, 0, none⟩ : Addr).add j) = some u := by
      intro j u hu
      rw [add0, hb.cell j]
      rw [List.getElem?_take] at hu
      split at hu
      · simpa using hu
      · cases hu
    by_cases hfit : ps.length + 1 ≤ c
    · have hrow : w.ownsRow 0 e 3 (.slice (some ⟨g, 0, none⟩) ps.length c) ps.length (cs.toList.take (ps.length * 3)) :=
        ⟨by simp; omega, .inr ⟨g, c, cs, rfl, Nat.zero_le _, hb, hn, by omega, by omega, rfl⟩⟩
      obtain ⟨w', hrun, hr, hgr⟩ := run_append_fits (P := P) w 0 tS ty e i 3 h1 h2 h4 g ps.length c _ hrow ad 1 cx _ (by simp) hnews hone hfit
      exact ⟨_, w', hrun, grew_fits hF hl hb hcs hfit hc ok1 ok2 hts hd hr hgr⟩
    · have hlo : (cs.toList.take (ps.length * 3)).length = ps.length * 3 := by simp; omega
      obtain ⟨v', w', hrun, hr, hgr⟩ := run_append_arg_grows (P := P) w tS ty e i z 3 40 h1 h2 h3 h4 h5 h6 (by omega) ⟨g, 0, none⟩ ps.length c (cs.toList.take (ps.length * 3)) hlo hcell ad 1 cx _ (by simp) hnews (by omega) (by omega) (by omega)
      refine ⟨v', w', hrun, grew_new hlo ⟨g, 0, OwL.move (w := w) (fun b h => h.1) (fun _ _ _ => rfl) (fun _ _ => rfl) hl, fun j hj => ?_⟩ hFl hF1l ok1 ok2 hts hd hr hgr⟩
      rw [Nat.zero_add, hb.cell j, List.getElem?_take, if_pos (by omega)]
      simp

theorem step_append_ow {P : Program} {ops : Array Oper} {o : Oper} {a : Act} {w : World} {K : Act → World → Prop} {Q : Exit → Act → World → Prop} {E : Prop}
    (hg : o.guard = none) (s x : Operand) (tS e : TypeId) (hop : o.op = Op.call { callee := Callee.builtin Builtin.append, args := #[s, x], argTypes := #[tS, tS] })
    (i : TypeInfo) (z : Value) (h1 : P.underlying tS = some (.slice e)) (h2 : P.info? e = some i) (h3 : i.zero = some z) (h4 : i.size = 3) (h5 : i.bytes = 40) (h6 : z.cells.size = 3)
    (F F1 : Nat → Prop) (ps : List T) (av : Option Addr) (c : Nat) (hs : a.eval s = .slice av ps.length c) (how : OwS w e F ps av c) (hlen : ps.length ≤ 1000000)
    (ad : Addr) (cx : Nat) (hx : a.eval x = .slice (some ad) 1 cx) (t : T) (a2 : Option Addr) (c2 : Nat) (hnews : ∀ j u, [Value.int .i64 t.k, .int .i64 t.n, .slice a2 t.ps.length c2][j]? = some u → w.cell? (ad.add j) = some u)
    (ok1 : i64ok t.k) (ok2 : i64ok t.n) (hts : OwS w e F1 t.ps a2 c2) (hd : ∀ b, F b → ¬ F1 b) (hFl : ∀ b, F b → b < w.heap.size) (hF1l : ∀ b, F1 b → b < w.heap.size)
    (hK : ∀ v' w', Grew w e F F1 ps av t v' w' → K (a.put o.dst v') w') :
    if Region.wanted o (yielded ops a.tmps) = true then Oper.wp P o a w K Q else E := by
  have hw : Region.wanted o (yielded ops a.tmps) = true := by simp [Region.wanted, hg]
  rw [if_pos hw]
  obtain ⟨v', w', hrun, hgr⟩ := run_append_ow (P := P) w tS o.type e i z h1 h2 h3 h4 h5 h6 F F1 ps av c how hlen ad cx t a2 c2 hnews ok1 ok2 hts hd hFl hF1l
  unfold Oper.wp
  simp [execOp, hop, resolve, invoke, builtin, hs, hx, hrun, Result.andThen]
  exact hK v' w' hgr
end Go.Proofs.YtgcjnhlppapfdaaDoor
