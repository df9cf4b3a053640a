/- where spec.OrderRestart stands: values, what is done, what is told, and a queue, each in memory of its own -/
import Derived.Test.YtmbgglmnbllpjaaTryS
import Derived.Test.YtmbgglmnbllpjaaBs2
namespace Go.Proofs.Ytmbgglmnbllpjaa
open Go.RowKit

section
variable {em : Int → Option Int → List Int} {ch : Int → List Int} {d : Int → Bool} {q o : List Int} {m : Nat} {k : Int}
theorem Ends.inv_nil (h : Ends em ch d [] o m) : o = [] := by cases h; rfl
theorem Ends.inv_skip (h : Ends em ch d (k :: q) o m) (hk : d k = true) : ∃ m', m = m' + 1 ∧ Ends em ch d q o m' := by
  cases h with
  | skip _ h => exact ⟨_, rfl, h⟩
  | fin h2 _ _ => rw [hk] at h2; cases h2
  | more h2 _ _ => rw [hk] at h2; cases h2
theorem Ends.inv_fin (h : Ends em ch d (k :: q) o m) (hk : d k = false) (hn : nxt ch d k = none) : ∃ m' o', m = m' + 1 ∧ o = em k none ++ o' ∧ Ends em ch (upd d k) q o' m' := by
  cases h with
  | skip h2 _ => rw [hk] at h2; cases h2
  | fin _ _ h => exact ⟨_, _, rfl, rfl, h⟩
  | more _ h2 _ => rw [hn] at h2; cases h2
theorem Ends.inv_more {j : Int} (h : Ends em ch d (k :: q) o m) (hk : d k = false) (hn : nxt ch d k = some j) : ∃ m' o', m = m' + 1 ∧ o = em k (some j) ++ o' ∧ Ends em ch d (j :: k :: q) o' m' := by
  cases h with
  | skip h2 _ => rw [hk] at h2; cases h2
  | fin _ h2 _ => rw [hn] at h2; cases h2
  | more _ h2 h =>
    rw [hn] at h2
    injection h2 with h2
    subst h2
    exact ⟨_, _, rfl, rfl, h⟩
end

structure RsAt (w : World) (base : Nat) (vv vd vo : Value) (vl D O q : List Int) (aq : Option Addr) (cq : Nat) : Prop where
  v : NumRow w base vv vl
  d : NumRow w base vd D
  o : NumRow w base vo O
  q : ∃ Sq : Nat → Prop, IntsAt w Sq q aq cq ∧ ∀ b, Sq b → base ≤ b ∧ b < w.heap.size ∧ ¬ vv.ownBlock = some b ∧ ¬ vd.ownBlock = some b ∧ ¬ vo.ownBlock = some b
  nvd : ∀ b, vv.ownBlock = some b → ¬ vd.ownBlock = some b
  nvo : ∀ b, vv.ownBlock = some b → ¬ vo.ownBlock = some b
  ndo : ∀ b, vd.ownBlock = some b → ¬ vo.ownBlock = some b

section
variable {w w' : World} {base : Nat} {vv vd vo : Value} {vl D O q : List Int} {aq : Option Addr} {cq : Nat}
theorem num_fr {D : Nat → Prop} {b : Nat} {v : Value} {l : List Int} (h : NumRow w b v l) (hf : Fr D w w') (hD : ∀ g, v.ownBlock = some g → ¬ D g) : NumRow w' b v l := ElRow.frO (f := Value.int .i64) (e := 3) h hf hD
theorem RsAt.below (h : RsAt w base vv vd vo vl D O q aq cq) (hb : Below w.heap.size w w') : RsAt w' base vv vd vo vl D O q aq cq where
  v := ElRow.below (f := Value.int .i64) (e := 3) h.v hb
  d := ElRow.below (f := Value.int .i64) (e := 3) h.d hb
  o := ElRow.below (f := Value.int .i64) (e := 3) h.o hb
  q := by
    obtain ⟨Sq, h1, h2⟩ := h.q
    exact ⟨Sq, h1.below hb, fun b hs => ⟨(h2 b hs).1, Nat.lt_of_lt_of_le (h2 b hs).2.1 hb.size, (h2 b hs).2.2⟩⟩
  nvd := h.nvd
  nvo := h.nvo
  ndo := h.ndo
theorem RsAt.alloc (h : RsAt w base vv vd vo vl D O q aq cq) (ob : Obj) : RsAt (w.alloc ob) base vv vd vo vl D O q aq cq := h.below ((Below.refl _ _).alloc (Nat.le_refl _) ob)
/-- One is told. -/
theorem RsAt.pushO {vo' : Value} {O' : List Int} (h : RsAt w base vv vd vo vl D O q aq cq) (hf : Fr (fun b => vo.ownBlock = some b) w w') (hr : NumRow w' base vo' O') (hn : ∀ b, vo'.ownBlock = some b → vo.ownBlock = some b ∨ w.heap.size ≤ b) : RsAt w' base vv vd vo' vl D O' q aq cq where
  v := num_fr h.v hf (fun g hg => h.nvo g hg)
  d := num_fr h.d hf (fun g hg => h.ndo g hg)
  o := hr
  q := by
    obtain ⟨Sq, h1, h2⟩ := h.q
    refine ⟨Sq, h1.fr hf (fun b hb => (h2 b hb).2.2.2.2), fun b hs => ⟨(h2 b hs).1, Nat.lt_of_lt_of_le (h2 b hs).2.1 hf.size, (h2 b hs).2.2.1, (h2 b hs).2.2.2.1, fun e => ?_⟩⟩
    rcases hn b e with e | e
    · exact (h2 b hs).2.2.2.2 e
    · have := (h2 b hs).2.1; omega
  nvd := h.nvd
  nvo b hb e := by
    rcases hn b e with e | e
    · exact h.nvo b hb e
    · have := (World.ownsRow.lt h.v b hb).2; omega
  ndo b hb e := by
    rcases hn b e with e | e
    · exact h.ndo b hb e
    · have := (World.ownsRow.lt h.d b hb).2; omega
/-- One is done. -/
theorem RsAt.pushD {vd' : Value} {D' : List Int} (h : RsAt w base vv vd vo vl D O q aq cq) (hf : Fr (fun b => vd.ownBlock = some b) w w') (hr : NumRow w' base vd' D') (hn : ∀ b, vd'.ownBlock = some b → vd.ownBlock = some b ∨ w.heap.size ≤ b) : RsAt w' base vv vd' vo vl D' O q aq cq where
  v := num_fr h.v hf (fun g hg => h.nvd g hg)
  d := hr
  o := num_fr h.o hf (fun g hg e => h.ndo g e hg)
  q := by
    obtain ⟨Sq, h1, h2⟩ := h.q
    refine ⟨Sq, h1.fr hf (fun b hb => (h2 b hb).2.2.2.1), fun b hs => ⟨(h2 b hs).1, Nat.lt_of_lt_of_le (h2 b hs).2.1 hf.size, (h2 b hs).2.2.1, fun e => ?_, (h2 b hs).2.2.2.2⟩⟩
    rcases hn b e with e | e
    · exact (h2 b hs).2.2.2.1 e
    · have := (h2 b hs).2.1; omega
  nvd b hb e := by
    rcases hn b e with e | e
    · exact h.nvd b hb e
    · have := (World.ownsRow.lt h.v b hb).2; omega
  nvo := h.nvo
  ndo b hb e := by
    rcases hn b hb with h1 | h1
    · exact h.ndo b h1 e
    · have := (World.ownsRow.lt h.o b e).2; omega
/-- A value is set. -/
theorem RsAt.setV {g n cap : Nat} (h : RsAt w base (.slice (some ⟨g, 0, none⟩) n cap) vd vo vl D O q aq cq) (i : Nat) (x : Int) : RsAt (w.setCell ⟨g, i, none⟩ (.int .i64 x)) base (.slice (some ⟨g, 0, none⟩) n cap) vd vo (vl.set i x) D O q aq cq := by
  have hf : Fr (fun b => b = g) w (w.setCell ⟨g, i, none⟩ (.int .i64 x)) := Fr.set' (D := fun b => b = g) (Fr.of_below (Below.refl _ _)) ⟨g, i, none⟩ rfl _
  have hs : (w.setCell ⟨g, i, none⟩ (.int .i64 x)).heap.size = w.heap.size := by simp [World.setCell]
  refine ⟨h.v.set_ i x, num_fr h.d hf (fun b hb e => h.nvd g rfl (by rw [← e]; exact hb)), num_fr h.o hf (fun b hb e => h.nvo g rfl (by rw [← e]; exact hb)), ?_, h.nvd, h.nvo, h.ndo⟩
  obtain ⟨Sq, h1, h2⟩ := h.q
  exact ⟨Sq, h1.fr hf (fun b hb e => (h2 b hb).2.2.1 (by rw [e]; rfl)), fun b hb => ⟨(h2 b hb).1, by rw [hs]; exact (h2 b hb).2.1, (h2 b hb).2.2⟩⟩
/-- Another queue. -/
theorem RsAt.newQ {vq : Value} {q' : List Int} (h : RsAt w base vv vd vo vl D O q aq cq) (hb : Below w.heap.size w w') (hbase : base ≤ w.heap.size) (hr : NumRow w' w.heap.size vq q') (hi : ∀ x ∈ q', i64ok x) : ∃ aq' cq', vq = .slice aq' q'.length cq' ∧ RsAt w' base vv vd vo vl D O q' aq' cq' := by
  obtain ⟨a, c, rfl, hia⟩ := hr.at hi
  have h2 := h.below hb
  refine ⟨a, c, rfl, h2.v, h2.d, h2.o, ⟨_, hia.lim, fun b hs => ⟨by omega, hs.2, fun e => ?_, fun e => ?_, fun e => ?_⟩⟩, h.nvd, h.nvo, h.ndo⟩
  · have := (World.ownsRow.lt h.v b e).2; omega
  · have := (World.ownsRow.lt h.d b e).2; omega
  · have := (World.ownsRow.lt h.o b e).2; omega
/-- The queue without its first. -/
theorem RsAt.tail {k : Int} {b o : Nat} (h : RsAt w base vv vd vo vl D O (k :: q) (some ⟨b, o, none⟩) cq) : RsAt w base vv vd vo vl D O q (some ⟨b, o + 1, none⟩) (cq - 1) := by
  obtain ⟨Sq, h1, h2⟩ := h.q
  refine ⟨h.v, h.d, h.o, ⟨Sq, ⟨?_, ?_, fun v hv => h1.2.2.1 v (by simp [hv]), ?_⟩, h2⟩, h.nvd, h.nvo, h.ndo⟩
  · have := h1.1; simp at this; omega
  · have := h1.2.1; omega
  · rcases h1.2.2.2 with h3 | ⟨b', o', ha, hS, hc⟩
    · cases h3
    · simp only [Option.some.injEq, Addr.mk.injEq, and_true] at ha
      obtain ⟨rfl, rfl⟩ := ha
      refine .inr ⟨b, o + 1, rfl, hS, fun i hi => ?_⟩
      have := hc (i + 1) (by simp; omega)
      rw [show o + 1 + i = o + (i + 1) by omega]
      simpa using this
theorem RsAt.tail0 {k : Int} {b o : Nat} (h : RsAt w base vv vd vo vl D O (k :: q) (some ⟨b, o, none⟩) cq) (hc : cq - 1 = 0) : RsAt w base vv vd vo vl D O q (some ⟨b, o, none⟩) 0 := by
  obtain ⟨Sq, h1, h2⟩ := h.q
  have h3 := h1.1
  have hq : q = [] := List.length_eq_zero_iff.1 (by simp at h3; omega)
  subst hq
  exact ⟨h.v, h.d, h.o, ⟨Sq, IntsAt.nil (by omega), h2⟩, h.nvd, h.nvo, h.ndo⟩
theorem RsAt.head {k : Int} (h : RsAt w base vv vd vo vl D O (k :: q) aq cq) : ∃ b o, aq = some ⟨b, o, none⟩ ∧ w.cell? ⟨b, o, none⟩ = some (.int .i64 k) ∧ q.length + 1 ≤ cq ∧ cq ≤ 9223372036854775807 := by
  obtain ⟨Sq, h1, h2⟩ := h.q
  rcases h1.2.2.2 with h3 | ⟨b', o', ha, hS, hc⟩
  · cases h3
  · have := hc 0 (by simp)
    have h4 := h1.1
    simp at h4
    exact ⟨b', o', ha, by simpa using this, h4, h1.2.1⟩
end
end Go.Proofs.Ytmbgglmnbllpjaa
