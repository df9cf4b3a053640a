/- several texts in one: RsA, RsS, OrdI -/
import Derived.Test.YtochgmbeomfkpaaTryS
import Derived.Test.YtochgmbeomfkpaaBs2
import Derived.Test.YtochgmbeomfkpaaFi1
import Derived.Test.YtochgmbeomfkpaaStepN
import Derived.Test.YtochgmbeomfkpaaOrdE
import Derived.Test.YtochgmbeomfkpaaSafeI
/- where spec.OrderRestart stands: values, what is done, what is told, and a queue, each in memory of its own -/
namespace Go.Proofs.Ytochgmbeomfkpaa
open Go.RowKit

section
variable {em : Int → Option Int → List Int} {ch : Int → List Int} {d : Int → Bool} {q o : List Int} {m : Nat} {k : Int}
theorem Ends.inv_nil (h : Ends em ch d [] o m) : o = [] := by cases h; rfl
theorem Ends.inv_skip (h : Ends em ch d (k :: q) o m) (hk : d k = true) : ∃ m', m = m' + 1 ∧ Ends em ch d q o m' := by
  cases h with
  | skip _ h => exact ⟨_, rfl, h⟩
  | fin h2 _ _ => rw [hk] at h2; cases h2
  | more h2 _ _ => rw [hk] at h2; cases h2
theorem Ends.inv_fin (h : Ends em ch d (k :: q) o m) (hk : d k = false) (hn : nxt ch d k = none) : ∃ m' o', m = m' + 1 ∧ o = em k none ++ o' ∧ Ends em ch (upd d k) q o' m' := by
  cases h with
  | skip h2 _ => rw [hk] at h2; cases h2
  | fin _ _ h => exact ⟨_, _, rfl, rfl, h⟩
  | more _ h2 _ => rw [hn] at h2; cases h2
theorem Ends.inv_more {j : Int} (h : Ends em ch d (k :: q) o m) (hk : d k = false) (hn : nxt ch d k = some j) : ∃ m' o', m = m' + 1 ∧ o = em k (some j) ++ o' ∧ Ends em ch d (j :: k :: q) o' m' := by
  cases h with
  | skip h2 _ => rw [hk] at h2; cases h2
  | fin _ h2 _ => rw [hn] at h2; cases h2
  | more _ h2 h =>
    rw [hn] at h2
    injection h2 with h2
    subst h2
    exact ⟨_, _, rfl, rfl, h⟩
end

structure RsAt (w : World) (base : Nat) (vv vd vo : Value) (vl D O q : List Int) (aq : Option Addr) (cq : Nat) : Prop where
  v : NumRow w base vv vl
  d : NumRow w base vd D
  o : NumRow w base vo O
  q : ∃ Sq : Nat → Prop, IntsAt w Sq q aq cq ∧ ∀ b, Sq b → base ≤ b ∧ b < w.heap.size ∧ ¬ vv.ownBlock = some b ∧ ¬ vd.ownBlock = some b ∧ ¬ vo.ownBlock = some b
  nvd : ∀ b, vv.ownBlock = some b → ¬ vd.ownBlock = some b
  nvo : ∀ b, vv.ownBlock = some b → ¬ vo.ownBlock = some b
  ndo : ∀ b, vd.ownBlock = some b → ¬ vo.ownBlock = some b

section
variable {w w' : World} {base : Nat} {vv vd vo : Value} {vl D O q : List Int} {aq : Option Addr} {cq : Nat}
theorem num_fr {D : Nat → Prop} {b : Nat} {v : Value} {l : List Int} (h : NumRow w b v l) (hf : Fr D w w') (hD : ∀ g, v.ownBlock = some g → ¬ D g) : NumRow w' b v l := ElRow.frO (f := Value.int .i64) (e := 3) h hf hD
theorem RsAt.below (h : RsAt w base vv vd vo vl D O q aq cq) (hb : Below w.heap.size w w') : RsAt w' base vv vd vo vl D O q aq cq where
  v := ElRow.below (f := Value.int .i64) (e := 3) h.v hb
  d := ElRow.below (f := Value.int .i64) (e := 3) h.d hb
  o := ElRow.below (f := Value.int .i64) (e := 3) h.o hb
  q := by
    obtain ⟨Sq, h1, h2⟩ := h.q
    exact ⟨Sq, h1.below hb, fun b hs => ⟨(h2 b hs).1, Nat.lt_of_lt_of_le (h2 b hs).2.1 hb.size, (h2 b hs).2.2⟩⟩
  nvd := h.nvd
  nvo := h.nvo
  ndo := h.ndo
theorem RsAt.alloc (h : RsAt w base vv vd vo vl D O q aq cq) (ob : Obj) : RsAt (w.alloc ob) base vv vd vo vl D O q aq cq := h.below ((Below.refl _ _).alloc (Nat.le_refl _) ob)
/-- One is told. -/
theorem RsAt.pushO {vo' : Value} {O' : List Int} (h : RsAt w base vv vd vo vl D O q aq cq) (hf : Fr (fun b => vo.ownBlock = some b) w w') (hr : NumRow w' base vo' O') (hn : ∀ b, vo'.ownBlock = some b → vo.ownBlock = some b ∨ w.heap.size ≤ b) : RsAt w' base vv vd vo' vl D O' q aq cq where
  v := num_fr h.v hf (fun g hg => h.nvo g hg)
  d := num_fr h.d hf (fun g hg => h.ndo g hg)
  o := hr
  q := by
    obtain ⟨Sq, h1, h2⟩ := h.q
    refine ⟨Sq, h1.fr hf (fun b hb => (h2 b hb).2.2.2.2), fun b hs => ⟨(h2 b hs).1, Nat.lt_of_lt_of_le (h2 b hs).2.1 hf.size, (h2 b hs).2.2.1, (h2 b hs).2.2.2.1, fun e => ?_⟩⟩
    rcases hn b e with e | e
    · exact (h2 b hs).2.2.2.2 e
    · have := (h2 b hs).2.1; omega
  nvd := h.nvd
  nvo b hb e := by
    rcases hn b e with e | e
    · exact h.nvo b hb e
    · have := (World.ownsRow.lt h.v b hb).2; omega
  ndo b hb e := by
    rcases hn b e with e | e
    · exact h.ndo b hb e
    · have := (World.ownsRow.lt h.d b hb).2; omega
/-- One is done. -/
theorem RsAt.pushD {vd' : Value} {D' : List Int} (h : RsAt w base vv vd vo vl D O q aq cq) (hf : Fr (fun b => vd.ownBlock = some b) w w') (hr : NumRow w' base vd' D') (hn : ∀ b, vd'.ownBlock = some b → vd.ownBlock = some b ∨ w.heap.size ≤ b) : RsAt w' base vv vd' vo vl D' O q aq cq where
  v := num_fr h.v hf (fun g hg => h.nvd g hg)
  d := hr
  o := num_fr h.o hf (fun g hg e => h.ndo g e hg)
  q := by
    obtain ⟨Sq, h1, h2⟩ := h.q
    refine ⟨Sq, h1.fr hf (fun b hb => (h2 b hb).2.2.2.1), fun b hs => ⟨(h2 b hs).1, Nat.lt_of_lt_of_le (h2 b hs).2.1 hf.size, (h2 b hs).2.2.1, fun e => ?_, (h2 b hs).2.2.2.2⟩⟩
    rcases hn b e with e | e
    · exact (h2 b hs).2.2.2.1 e
    · have := (h2 b hs).2.1; omega
  nvd b hb e := by
    rcases hn b e with e | e
    · exact h.nvd b hb e
    · have := (World.ownsRow.lt h.v b hb).2; omega
  nvo := h.nvo
  ndo b hb e := by
    rcases hn b hb with h1 | h1
    · exact h.ndo b h1 e
    · have := (World.ownsRow.lt h.o b e).2; omega
/-- A value is set. -/
theorem RsAt.setV {g n cap : Nat} (h : RsAt w base (.slice (some ⟨g, 0, none⟩) n cap) vd vo vl D O q aq cq) (i : Nat) (x : Int) : RsAt (w.setCell ⟨g, i, none⟩ (.int .i64 x)) base (.slice (some ⟨g, 0, none⟩) n cap) vd vo (vl.set i x) D O q aq cq := by
  have hf : Fr (fun b => b = g) w (w.setCell ⟨g, i, none⟩ (.int .i64 x)) := Fr.set' (D := fun b => b = g) (Fr.of_below (Below.refl _ _)) ⟨g, i, none⟩ rfl _
  have hs : (w.setCell ⟨g, i, none⟩ (.int .i64 x)).heap.size = w.heap.size := by simp [World.setCell]
  refine ⟨h.v.set_ i x, num_fr h.d hf (fun b hb e => h.nvd g rfl (by rw [← e]; exact hb)), num_fr h.o hf (fun b hb e => h.nvo g rfl (by rw [← e]; exact hb)), ?_, h.nvd, h.nvo, h.ndo⟩
  obtain ⟨Sq, h1, h2⟩ := h.q
  exact ⟨Sq, h1.fr hf (fun b hb e => (h2 b hb).2.2.1 (by rw [e]; rfl)), fun b hb => ⟨(h2 b hb).1, by rw [hs]; exact (h2 b hb).2.1, (h2 b hb).2.2⟩⟩
/-- Another queue. -/
theorem RsAt.newQ {vq : Value} {q' : List Int} (h : RsAt w base vv vd vo vl D O q aq cq) (hb : Below w.heap.size w w') (hbase : base ≤ w.heap.size) (hr : NumRow w' w.heap.size vq q') (hi : ∀ x ∈ q', i64ok x) : ∃ aq' cq', vq = .slice aq' q'.length cq' ∧ RsAt w' base vv vd vo vl D O q' aq' cq' := by
  obtain ⟨a, c, rfl, hia⟩ := hr.at hi
  have h2 := h.below hb
  refine ⟨a, c, rfl, h2.v, h2.d, h2.o, ⟨_, hia.lim, fun b hs => ⟨by omega, hs.2, fun e => ?_, fun e => ?_, fun e => ?_⟩⟩, h.nvd, h.nvo, h.ndo⟩
  · have := (World.ownsRow.lt h.v b e).2; omega
  · have := (World.ownsRow.lt h.d b e).2; omega
  · have := (World.ownsRow.lt h.o b e).2; omega
/-- The queue without its first. -/
theorem RsAt.tail {k : Int} {b o : Nat} (h : RsAt w base vv vd vo vl D O (k :: q) (some ⟨b, o, none⟩) cq) : RsAt w base vv vd vo vl D O q (some ⟨b, o + 1, none⟩) (cq - 1) := by
  obtain ⟨Sq, h1, h2⟩ := h.q
  refine ⟨h.v, h.d, h.o, ⟨Sq, ⟨?_, ?_, fun v hv => h1.2.2.1 v (by simp [hv]), ?_⟩, h2⟩, h.nvd, h.nvo, h.ndo⟩
  · have := h1.1; simp at this; omega
  · have := h1.2.1; omega
  · rcases h1.2.2.2 with h3 | ⟨b', o', ha, hS, hc⟩
    · cases h3
    · simp only [Option.some.injEq, Addr.mk.injEq, and_true] at ha
      obtain ⟨rfl, rfl⟩ := ha
      refine .inr ⟨b, o + 1, rfl, hS, fun i hi => ?_⟩
      have := hc (i + 1) (by simp; omega)
      rw [show o + 1 + i = o + (i + 1) by omega]
      simpa using this
theorem RsAt.tail0 {k : Int} {b o : Nat} (h : RsAt w base vv vd vo vl D O (k :: q) (some ⟨b, o, none⟩) cq) (hc : cq - 1 = 0) : RsAt w base vv vd vo vl D O q (some ⟨b, o, none⟩) 0 := by
  obtain ⟨Sq, h1, h2⟩ := h.q
  have h3 := h1.1
  have hq : q = [] := List.length_eq_zero_iff.1 (by simp at h3; omega)
  subst hq
  exact ⟨h.v, h.d, h.o, ⟨Sq, IntsAt.nil (by omega), h2⟩, h.nvd, h.nvo, h.ndo⟩
theorem RsAt.head {k : Int} (h : RsAt w base vv vd vo vl D O (k :: q) aq cq) : ∃ b o, aq = some ⟨b, o, none⟩ ∧ w.cell? ⟨b, o, none⟩ = some (.int .i64 k) ∧ q.length + 1 ≤ cq ∧ cq ≤ 9223372036854775807 := by
  obtain ⟨Sq, h1, h2⟩ := h.q
  rcases h1.2.2.2 with h3 | ⟨b', o', ha, hS, hc⟩
  · cases h3
  · have := hc 0 (by simp)
    have h4 := h1.1
    simp at h4
    exact ⟨b', o', ha, by simpa using this, h4, h1.2.1⟩
end
end Go.Proofs.Ytochgmbeomfkpaa
/- spec.OrderRestart -/
namespace Go.Proofs.Ytochgmbeomfkpaa
open Go.RowKit

theorem num_blk {w : World} {base g n c : Nat} {l : List Int} (h : NumRow w base (.slice (some ⟨g, 0, none⟩) n c) l) : ∃ cs, Blk w g 3 cs := by
  obtain ⟨_, ⟨hx, _⟩ | ⟨gb, cap', cur, hx, _, hh, _⟩⟩ := h
  · cases hx
  · simp only [Value.slice.injEq, Option.some.injEq, Addr.mk.injEq, and_true] at hx
    obtain ⟨rfl, _, _⟩ := hx
    exact ⟨cur, hh⟩
theorem vf_set {vl : List Int} {k : Nat} (hk : k < vl.length) (v x : Int) (h0 : 0 ≤ x) : vf (vl.set k v) x = if x = k then v else vf vl x := by
  unfold vf
  rw [List.length_set]
  by_cases hx : x < vl.length
  · rw [if_pos hx, if_pos hx, List.getD_eq_getElem?_getD, List.getD_eq_getElem?_getD, List.getElem?_set]
    by_cases he : x = k
    · subst he
      simp [hk]
    · rw [if_neg (by omega), if_neg he]
  · rw [if_neg hx, if_neg hx, if_neg (by omega)]

/-- The values, as far as keys are done. -/
def ValsOk (s : Sh) (l vl D : List Int) : Prop := vl.length = l.length ∧ ∀ x, 0 ≤ x → vf vl x = if dnS s D x = true then vsS s l x else vf l x

end Go.Proofs.Ytochgmbeomfkpaa
/- impl.OrderSuspend, impl.OrderRestart -/
namespace Go.Proofs.Ytochgmbeomfkpaa
open Go.RowKit

theorem ojB_no {g n bx : Nat} {v : Value} {base b : Nat} {w : World} {tr : List Int} (ho : OrdAt w bx base v tr) (h1 : b ≠ bx) (h2 : ¬ ndB g n b) (h3 : b < base) : ¬ ojB g n bx v b := by
  rintro (h | h | h)
  · exact h2 h
  · exact h1 h
  · have := (World.ownsRow.lt ho.2 b h).1; omega
/-- One key of the queue more. -/
theorem sim_step {em : Int → Option Int → List Int} {ch : Int → List Int} {d0 d d' : Int → Bool} {ks tr X : List Int} {k : Nat} (hk : k < ks.length) (h : ∀ q o m, Ends em ch d q o m → ∃ m', Ends em ch d0 (ks.take k ++ q) (tr ++ o) m') (hv : Visit em ch d ks[k] X d') :
    ∀ q o m, Ends em ch d' q o m → ∃ m', Ends em ch d0 (ks.take (k + 1) ++ q) ((tr ++ X) ++ o) m' := fun q o m he => by
  obtain ⟨m1, h1⟩ := hv q o m he
  obtain ⟨m2, h2⟩ := h _ _ _ h1
  refine ⟨m2, ?_⟩
  rw [List.take_succ_eq_append_getElem hk, List.append_assoc, List.append_assoc]
  exact h2
set_option maxRecDepth 100000 in
set_option maxHeartbeats 4000000 in
theorem implSuspend_any (s : Sh) (l ks : List Int) (w : World) (S0 S1 S2 : Nat → Prop) (a : Option Addr) (c : Nat) (a' : Option Addr) (c' : Nat) (ai : Option Addr) (ci : Nat) (ak : Option Addr) (ck : Nat) (h0 : ShAt w S0 s a c a' c') (hl : IntsAt w S1 l ai ci) (hk0 : IntsAt w S2 ks ak ck) :
    Calls Try.prog 20 #[.agg #[.slice a s.m.length c, .slice a' s.t.length c'], .slice ai l.length ci, .slice ak ks.length ck] w (OrP (suB s l ks) (suL s l ks) w) := by
  obtain ⟨S, hSd⟩ : ∃ S : Nat → Prop, S = fun b => S0 b ∧ b < w.heap.size := ⟨_, rfl⟩
  have hSl : ∀ b, S b → b < w.heap.size := by rw [hSd]; exact fun b h => h.2
  have h : ShAt w S s a c a' c' := by rw [hSd]; exact h0.lim
  have HSL := Lib.hid hSl
  have K0 := Lib.hid (Ks.start (ty := 32) h)
  have L0 := Lib.hid (hl.alloc (.cells #[.slice a s.m.length c, .slice a' s.t.length c'] 32))
  have Q0 := Lib.hid (hk0.lim.alloc (.cells #[.slice a s.m.length c, .slice a' s.t.length c'] 32))
  have hkl : ks.length ≤ 9223372036854775807 := by have := hk0.1; have := hk0.2.1; omega
  obtain ⟨KL, hKL⟩ : ∃ n, n = ks.length := ⟨_, rfl⟩
  have HKL := Lib.hid hKL
  rw [← hKL] at hkl ⊢
  obtain ⟨b, hb⟩ : ∃ b, b = suB s l ks := ⟨_, rfl⟩
  obtain ⟨L, hL⟩ : ∃ L, L = suL s l ks := ⟨_, rfl⟩
  have HNO := Lib.hid (show ∀ (w' : World) (v : Value), suB s l ks = false → Below w.heap.size w w' → NumRow w' w.heap.size v [] → OrP b L w (.returned (.tuple #[v, .bool false])) w' from fun w' v h1 h2 h3 => by rw [hb, hL]; exact OrP.su_no h1 h2 h3)
  have HYES := Lib.hid (show ∀ (w' : World) (v : Value) (o : List Int) (m : Nat), suB s l ks = true → Ends emS (chS s l) (d0S s) ks o m → Below w.heap.size w w' → NumRow w' w.heap.size v o → OrP b L w (.returned (.tuple #[v, .bool true])) w' from fun w' v o m h1 h2 h3 h4 => by rw [hb, hL]; exact OrP.su_yes h1 h2 h3 h4)
  rw [← hb, ← hL]
  clear h h0 hl hk0 hSd hSl hKL hb hL
  obtain ⟨x0, x1⟩ := K0.out.box
  have hmf : ∀ (fn : Fn) (first cap : Array Value) (w : World), (Instr.makeFunc fn first cap).run Try.prog w = .ok (.func fn first cap) w := fun _ _ _ _ => rfl
  cases hin : inOk s l
  · have HI := Lib.hid hin
    clear hin
    go_enter Try.func20, Try.ntmps20
    go_wp2_with fail
    refine (implInputs_any s l _ S _ a c a' c' ai ci K0.out.2 L0.out).mono ?_
    rintro e w1 ⟨rfl, hb⟩
    rw [HI.out]
    have K1 := Lib.hid (K0.out.step hb)
    clear hb x0 x1
    go_wp2_with fail
    go_ret2
    exact HNO.out _ _ (by unfold suB; rw [HI.out]; rfl) K1.out.done (World.ownsRow_nil _ _ _ _)
  cases hkb : hkB s ks
  · have HI := Lib.hid hin
    have HK := Lib.hid hkb
    clear hin hkb
    go_enter Try.func20, Try.ntmps20
    go_wp2_with fail
    refine (implInputs_any s l _ S _ a c a' c' ai ci K0.out.2 L0.out).mono ?_
    rintro e w1 ⟨rfl, hb⟩
    rw [HI.out]
    have K1 := Lib.hid (K0.out.step hb)
    have Q1 := Lib.hid (Q0.out.below hb)
    clear hb x0 x1
    obtain ⟨x0, x1⟩ := K1.out.box
    go_wp2_with fail
    have hc := hasKeys_any s ks w1 S _ a c a' c' ak ck K1.out.2 Q1.out
    rw [← HKL.out] at hc
    refine hc.mono ?_
    clear hc
    rintro e w2 ⟨rfl, hb⟩
    rw [HK.out]
    have K2 := Lib.hid (K1.out.step hb)
    clear hb x0 x1
    go_wp2_with fail
    go_ret2
    exact HNO.out _ _ (by unfold suB; rw [HK.out]; simp) K2.out.done (World.ownsRow_nil _ _ _ _)
  have hok := (inOk_of hin).1
  have hmb : s.m.length ≤ 10 := (Sh.ok_iff.1 hok).1
  have HI := Lib.hid hin
  have HK := Lib.hid hkb
  have HOK := Lib.hid hok
  obtain ⟨n, hn⟩ : ∃ n, n = s.m.length := ⟨_, rfl⟩
  have HN := Lib.hid hn
  have hn10 : n ≤ 10 := by omega
  clear hin hkb hok hn hmb
  go_enter Try.func20, Try.ntmps20
  go_wp2_with fail
  refine (implInputs_any s l _ S _ a c a' c' ai ci K0.out.2 L0.out).mono ?_
  rintro e w1 ⟨rfl, hb⟩
  rw [HI.out]
  have K1 := Lib.hid (K0.out.step hb)
  have L1 := Lib.hid (L0.out.below hb)
  have Q1 := Lib.hid (Q0.out.below hb)
  clear hb x0 x1 K0 L0 Q0
  obtain ⟨x0, x1⟩ := K1.out.box
  go_wp2_with fail
  have hc := hasKeys_any s ks w1 S _ a c a' c' ak ck K1.out.2 Q1.out
  rw [← HKL.out] at hc
  refine hc.mono ?_
  clear hc
  rintro e w2 ⟨rfl, hb⟩
  rw [HK.out]
  have K2 := Lib.hid (K1.out.step hb)
  have L2 := Lib.hid (L1.out.below hb)
  have Q2 := Lib.hid (Q1.out.below hb)
  clear hb x0 x1 K1 L1 Q1
  obtain ⟨x0, x1⟩ := K2.out.box
  have hs2 := K2.out.size
  have K2b := Lib.hid (K2.out.alloc (.cells #[.slice none 0 0] 26))
  have L2b := Lib.hid (L2.out.alloc (.cells #[.slice none 0 0] 26))
  have Q2b := Lib.hid (Q2.out.alloc (.cells #[.slice none 0 0] 26))
  have B2b := Lib.hid (Blk.new w2 26 #[.slice none 0 0])
  clear x0 x1 K2 L2 Q2
  obtain ⟨x0, x1⟩ := K2b.out.box
  go_wp2_with fail
  refine (nodes_any' s l _ S _ a c a' c' ai ci K2b.out.2 L2b.out HI.out).mono ?_
  rintro e w3 ⟨g, br, rfl, hb1, hg1, hnb, hp, hnd, hb⟩
  rw [← HN.out] at hp hnd hnb ⊢
  have hs3 := hb.size
  simp only [World.size_alloc] at hb1 hg1 hs3
  have hgw : n = 0 ∨ g + n ≤ w3.heap.size := by
    rcases Nat.eq_zero_or_pos n with h | h
    · exact .inl h
    · obtain ⟨_, _, hl, _⟩ := hnd.node (i := n - 1) (by omega)
      exact .inr (by omega)
  have hbl : n = 0 ∨ br < w3.heap.size := by
    rcases Nat.eq_zero_or_pos n with h | h
    · exact .inl h
    · exact .inr (cell_lt (hp.cell h))
  have ho3 : OrdAt w3 w2.heap.size w3.heap.size (.slice none 0 0) [] := ⟨B2b.out.below hb (by simp), World.ownsRow_nil _ _ _ _⟩
  have hnd2 := nds_start HOK.out hnd
  have hud : undone (fun k => !s.mdI k) n ≤ n := undone_le _ _
  have hu110 : undone (fun k => !s.mdI k) n * (n + 1) ≤ 110 := Nat.le_trans (Nat.mul_le_mul (Nat.le_trans hud hn10) (Nat.succ_le_succ hn10)) (by decide)
  have H3 := Lib.hid (And.intro hp (And.intro hnd2 (And.intro ((K2b.out.step hb).done) (And.intro (Q2b.out.below hb) (And.intro ho3 hu110)))))
  have HSB := Lib.hid (show ∀ b, (fun b => S b ∧ b < (w2.alloc (.cells #[.slice none 0 0] 26)).heap.size) b → b < g ∧ b ≠ w2.heap.size from fun b hb => by
    have := HSL.out b hb.1
    omega)
  have HNB := Lib.hid hnb
  clear hb hp hnd hnb ho3 hnd2 hud hu110 x0 x1 K2b L2b Q2b B2b
  go_wp2_with fail
  go_loopw [29] (fun i wr => ∃ (k : Nat) (d : Int → Bool) (v : Value) (tr : List Int), k ≤ KL ∧ i = .int .i64 k ∧ (∀ q, (!s.mdI q) = true → d q = true) ∧ (∀ q, d q = true → okS s l q = true) ∧ PRow wr br g n n ∧
    Nds wr (fun b => S b ∧ b < (w2.alloc (.cells #[.slice none 0 0] 26)).heap.size) s g n (mpv s g n) (fun q => if d q = true then vsS s l q else vf l q) d ∧ Below w.heap.size w wr ∧ IntsAt wr (fun b => S2 b ∧ b < w.heap.size) ks ak ck ∧ OrdAt wr w2.heap.size w3.heap.size v tr ∧
    tr.length + undone d n * (n + 1) ≤ 110 ∧ (∀ q o m, Ends emS (chS s l) d q o m → ∃ m', Ends emS (chS s l) (d0S s) (ks.take k ++ q) (tr ++ o) m') ∧ (∀ x ∈ ks.take k, okS s l x = true) ∧ w3.heap.size ≤ wr.heap.size) (fun i _ => KL - (intOf i).toNat)
  case atStart => exact ⟨0, fun k => !s.mdI k, _, [], by omega, rfl, fun _ h => h, fun k h => (gr_S HOK.out l).d0ok k h, H3.out.1, H3.out.2.1, H3.out.2.2.1, H3.out.2.2.2.1, H3.out.2.2.2.2.1, by simpa using H3.out.2.2.2.2.2, fun q o m h => ⟨m, h⟩, by simp, Nat.le_refl _⟩
  case round =>
    obtain ⟨k, d, v, tr, hk, rfl, hlo, hhi, hp, hnd, hbw, hki, hord, hlen, hsim, hall, hws⟩ := hrel
    have H4 := Lib.hid (And.intro hlo (And.intro hhi (And.intro hp (And.intro hnd (And.intro hbw (And.intro hki (And.intro hord (And.intro hlen (And.intro hsim hall)))))))))
    clear H3 hlo hhi hnd hbw hki hlen hsim hall
    by_cases hlt : k < KL
    · have hlt2 : k < ks.length := by have := HKL.out; omega
      obtain ⟨bk, ok, rfl, hbkl, _, hc⟩ := H4.out.2.2.2.2.2.1.get (Below.refl _ _) hlt2
      obtain ⟨key, hkey⟩ : ∃ key, key = ks[k] := ⟨_, rfl⟩
      have hkr : 0 ≤ key ∧ key < s.m.length := by
        have h := HK.out
        unfold hkB at h
        rw [List.all_eq_true] at h
        have h := h ks[k] (List.getElem_mem _)
        rw [decide_eq_true_eq] at h
        rw [hkey]; exact h
      obtain ⟨kn, rfl⟩ : ∃ kn : Nat, key = kn := ⟨key.toNat, by omega⟩
      have hkn : kn < n := by have := HN.out; omega
      rw [← hkey] at hc
      have HKEY := Lib.hid hkey
      have HL2 := Lib.hid hlt2
      have hcell := hp.cell hkn
      have hgn : g + n ≤ w3.heap.size := by rcases hgw with h | h <;> omega
      have hg := gr_S HOK.out l
      have hst := suspend_step (bx := w2.heap.size) (base := w3.heap.size) (try_step (S := fun b => S b ∧ b < (w2.alloc (.cells #[.slice none 0 0] 26)).heap.size) (g := g) HI.out (fun b hb => (HSB.out b hb).1)) HSB.out (by omega) (by rw [← HN.out]; exact hgn)
      rw [← HN.out] at hg hst
      have hfin := finishJ_any hg hst hn10 (fun b hb => (HSB.out b hb).1) (by omega) (fun b hb => (HSB.out b hb).2) wr d kn v tr hkn H4.out.1 H4.out.2.1 H4.out.2.2.2.1 hord (by have := H4.out.2.2.2.2.2.2.2.1; omega) hws
      have HFIN := Lib.hid hfin
      clear hkey hkr hp hg hst hfin hord
      go_wp2_with fail
      refine HFIN.out.mono ?_
      rintro e w4 ⟨d2, ln, a4, c4, v4, X, rfl, hlc, hcm, hnd2, hdd, hdo, hord4, hown4, hfr, hcase⟩
      clear hcell hc HFIN
      have hordw := H4.out.2.2.2.2.2.2.1
      have hvl := World.ownsRow.lt hordw.2
      have hb4 : Below w.heap.size w w4 := H4.out.2.2.2.2.1.trans ⟨hfr.1, hfr.2.1, hfr.2.2.1, hfr.2.2.2.1, fun b hb => hfr.2.2.2.2 b (by have := H4.out.2.2.2.2.1.size; omega) (fun h => by
        rcases h with h | h | h
        · have := h.1; omega
        · omega
        · have := (hvl b h).1; omega)⟩
      have hs4 := hfr.size
      rcases hcase with ⟨rfl, hdf, hvis, hlen⟩ | ⟨hne, hnok⟩
      · have hp4 := H4.out.2.2.1.fr hfr (ojB_no hordw (by omega) HNB.out (by rcases hbl with h | h <;> omega))
        have hk4 := H4.out.2.2.2.2.2.1.fr hfr (fun b hb => ojB_no hordw (by have := hb.2; omega) (fun h => by have := h.1; have := hb.2; omega) (by have := hb.2; omega))
        have hlen4 : (tr ++ X).length + undone d2 n * (n + 1) ≤ 110 := by rw [List.length_append]; have := H4.out.2.2.2.2.2.2.2.1; omega
        have hsim4 := sim_step HL2.out H4.out.2.2.2.2.2.2.2.2.1 (by rw [← HKEY.out]; exact hvis)
        have hall4 : ∀ x ∈ ks.take (k + 1), okS s l x = true := fun x hx => by
          rw [List.take_succ_eq_append_getElem HL2.out, List.mem_append, List.mem_singleton] at hx
          rcases hx with hx | rfl
          · exact H4.out.2.2.2.2.2.2.2.2.2 x hx
          · rw [← HKEY.out]; exact hdo _ hdf
        have H5 := Lib.hid (And.intro (fun q hq => hdd q (H4.out.1 q hq)) (And.intro hdo (And.intro hp4 (And.intro hnd2 (And.intro hb4 (And.intro hk4 (And.intro hord4 (And.intro hlen4 (And.intro hsim4 hall4)))))))))
        clear hnd2 hdd hdo hord4 hown4 hfr hdf hvis hlen hordw hvl hb4 hp4 hk4 hlen4 hsim4 hall4
        go_wp2_with fail
        go_roundw
        case rel => exact ⟨k + 1, d2, v4, tr ++ X, by omega, by go_num, H5.out.1, H5.out.2.1, H5.out.2.2.1, H5.out.2.2.2.1, H5.out.2.2.2.2.1, H5.out.2.2.2.2.2.1, H5.out.2.2.2.2.2.2.1, H5.out.2.2.2.2.2.2.2.1, H5.out.2.2.2.2.2.2.2.2.1, H5.out.2.2.2.2.2.2.2.2.2, by omega⟩
        case measure => simp [intOf]; omega
      · have HB4 := Lib.hid hb4
        have hno : suB s l ks = false := by
          unfold suB
          rw [all_fls HL2.out (by rw [← HKEY.out]; exact hnok), Bool.and_false]
        have HF := Lib.hid hno
        have hlp2 : 0 < ln := by omega
        have hlp : decide ((0 : Int) < (ln : Int)) = true := decide_eq_true (by omega)
        have hlp3 : decide (0 < ln) = true := decide_eq_true hlp2
        clear hnd2 hdd hdo hord4 hown4 hfr hnok hne hordw hvl hb4 hno
        go_wp2_with fail
        go_ret2
        exact HNO.out _ _ HF.out HB4.out (World.ownsRow_nil _ _ _ _)
    · have hq : ks.take k = ks := List.take_of_length_le (by have := HKL.out; omega)
      have hyes : suB s l ks = true := by
        unfold suB
        rw [HI.out, HK.out, Bool.true_and, Bool.true_and, List.all_eq_true]
        intro x hx
        exact H4.out.2.2.2.2.2.2.2.2.2 x (by rw [hq]; exact hx)
      have hends : ∃ m', Ends emS (chS s l) (d0S s) ks tr m' := by
        obtain ⟨m', h⟩ := H4.out.2.2.2.2.2.2.2.2.1 [] [] 0 (.nil d)
        rw [hq, List.append_nil, List.append_nil] at h
        exact ⟨m', h⟩
      have HY := Lib.hid (And.intro hyes hends)
      obtain ⟨y0, _⟩ := hord.1.one
      obtain ⟨av, cv, rfl, _⟩ := ElRow.at (f := Value.int .i64) (e := 3) hord.2
      clear hq hyes hends hord hp
      go_wp2_with fail
      go_ret2
      obtain ⟨m', h⟩ := HY.out.2
      exact HYES.out _ _ _ _ HY.out.1 h H4.out.2.2.2.2.1 (ownsRow_low H4.out.2.2.2.2.2.2.1.2 (by omega))

end Go.Proofs.Ytochgmbeomfkpaa
