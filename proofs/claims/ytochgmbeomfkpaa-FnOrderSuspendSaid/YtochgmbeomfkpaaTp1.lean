/- several texts in one: TopI, TopJ, TopF -/
import Derived.Test.YtochgmbeomfkpaaNeeds
import Derived.Test.YtochgmbeomfkpaaIn1
import Derived.Test.YtochgmbeomfkpaaBs2
import Derived.Test.YtochgmbeomfkpaaTopS
import Derived.Test.YtochgmbeomfkpaaSafeI
import Derived.Test.YtochgmbeomfkpaaFi1
import Derived.Test.YtochgmbeomfkpaaSafeA
/- impl.topoOrder -/
namespace Go.Proofs.Ytochgmbeomfkpaa
open Go.RowKit

theorem InB.ge {w : World} {base : Nat} {v : Value} {l : List Int} (h : InB w base v l) {y : Nat} (hy : AtV v y) : base ≤ y ∧ y < w.heap.size := by
  obtain ⟨a, n, c, hv, hb⟩ := hy
  rcases h with ⟨h1, _⟩ | ⟨g, o, c', cs, h1, h2, h3, _⟩
  · rw [h1] at hv; cases hv
  · rw [h1] at hv
    simp only [Value.slice.injEq, Option.some.injEq] at hv
    obtain ⟨rfl, _, _⟩ := hv
    exact ⟨by rw [← hb]; exact h2, by rw [← hb]; exact h3.lt⟩
/-- What holds of the list behind its head, where there is no room behind it. -/
theorem InB.tail0 {w : World} {base g o n : Nat} {k : Int} {l : List Int} (h : InB w base (.slice (some ⟨g, o, none⟩) n 1) (k :: l)) : l = [] ∧ InB w base (.slice (some ⟨g, o, none⟩) 0 0) [] := by
  rcases h with ⟨h, _⟩ | ⟨g', o', c', cs, hv, h2, h3, h4, h5, h6, h7⟩
  · cases h
  · simp only [Value.slice.injEq, Option.some.injEq, Addr.mk.injEq, and_true, List.length_cons] at hv
    obtain ⟨⟨rfl, rfl⟩, rfl, rfl⟩ := hv
    simp only [List.length_cons] at h5
    refine ⟨List.length_eq_zero_iff.1 (by omega), .inr ⟨g, o, 0, cs, rfl, h2, h3, by omega, by simp, by omega, fun j hj => by simp at hj⟩⟩
theorem InB.head {w : World} {base : Nat} {v : Value} {k : Int} {l : List Int} (h : InB w base v (k :: l)) : ∃ g o c, v = .slice (some ⟨g, o, none⟩) (l.length + 1) c ∧ l.length + 1 ≤ c ∧ c ≤ 9223372036854775807 ∧ g < w.heap.size ∧ w.cell? ⟨g, o, none⟩ = some (.int .i64 k) := by
  rcases h with ⟨_, h⟩ | ⟨g, o, c, cs, hv, h2, h3, h4, h5, h6, h7⟩
  · cases h
  · exact ⟨g, o, c, hv, by simpa using h5, h6, h3.lt, by rw [h3.cell]; exact h7 0 (by simp)⟩
theorem InB.len0 {w : World} {base : Nat} {v : Value} (h : InB w base v []) : ∃ a c, v = .slice a 0 c := by
  rcases h with ⟨h, _⟩ | ⟨g, o, c, cs, hv, _⟩
  · exact ⟨none, 0, h⟩
  · exact ⟨_, c, hv⟩

/-- What is known of the map while it is gone through: its rows. -/
def RowsG (w : World) (b : Nat) (s : Sh) (f : Int → Option (Option (Nat × Nat × Nat))) : Prop := ∀ k h, f k = some h → NumRow w (b + 1) (mkH h) (chL s k)
theorem RowsG.fr {w w' : World} {b : Nat} {s : Sh} {f : Int → Option (Option (Nat × Nat × Nat))} {D : Nat → Prop} (h : RowsG w b s f) (hf : Fr D w w') (hD : ∀ y, y < w.heap.size → ∀ k h, f k = some h → (mkH h).ownBlock = some y → ¬ D y) : RowsG w' b s f :=
  fun k hd hk => ownsRow_fr (h k hd hk) hf (fun y hy => hD y (World.ownsRow.lt (h k hd hk) y hy).2 k hd hk hy)

theorem asc_len {s : Sh} {N : Int → Bool} {l : List Int} (hN : ∀ k, N k = true → 0 ≤ k ∧ k < s.m.length) (hn10 : s.m.length ≤ 10) (ha : l.Pairwise (· < ·)) (hm : ∀ k ∈ l, N k = true) : l.length ≤ 10 := by
  have := nodup_bound s.m.length l (ha.imp (fun h e => by omega)) (fun k hk => hN k (hm k hk))
  omega
/-- What stands in the second round: the free keys, what is taken, what is built. -/
structure Ot (w : World) (bm : Nat) (out free : List Int) (v3 v4 : Value) (wr : World) : Prop where
  fr : InB wr (w.heap.size + 1) v3 free
  ou : NumRow wr (w.heap.size + 1) v4 out
  dis : ∀ y, AtV v3 y → v4.ownBlock ≠ some y
  mp : MapB wr bm out.length (fun y => decide (y ∈ out))
  d3 : ∀ y, AtV v3 y → y ≠ bm
  d4 : v4.ownBlock ≠ some bm
  bl : Below w.heap.size w wr
  sz : w.heap.size + 1 ≤ bm ∧ bm < wr.heap.size
theorem InB.frA {D : Nat → Prop} {w w' : World} {base : Nat} {v : Value} {l : List Int} (h : InB w base v l) (hf : Fr D w w') (hD : ∀ y, AtV v y → ¬ D y) : InB w' base v l := h.fr hf (fun a n c hv => hD a.block ⟨a, n, c, hv, rfl⟩)
theorem numRow_len {w : World} {base : Nat} {v : Value} {l : List Int} (h : NumRow w base v l) : lnV v = l.length := by
  obtain ⟨_, ⟨rfl, h0⟩ | ⟨g, cap, cur, rfl, _⟩⟩ := h
  · rw [h0]; rfl
  · rfl
/-- Where the first round stands. -/
def Bg (w : World) (b n : Nat) (s : Sh) (N : Int → Bool) (f : Int → Option (Option (Nat × Nat × Nat))) (v : Value) (wr : World) : Prop :=
  ∃ (free : List Int) (left : Int → Bool), InB wr (w.heap.size + 1) v free ∧ RgG wr b w.heap.size n f left ∧ BegT N (chL s) left free ∧ (∀ x, left x = true → N x = true) ∧ Below w.heap.size w wr ∧ w.heap.size + 1 ≤ wr.heap.size

set_option maxRecDepth 100000 in
set_option maxHeartbeats 4000000 in
theorem topoOrder_any (s : Sh) (N : Int → Bool) (w : World) (b : Nat) (hn : NdG w b s N) (hN : ∀ k, N k = true → 0 ≤ k ∧ k < s.m.length) (hn10 : s.m.length ≤ 10) :
    Calls Try.prog 37 #[.map (some b)] w fun e w' => ∃ v o, e = .returned v ∧ Topo N (chL s) [] o ∧ NumRow w' w.heap.size v o ∧ Below w.heap.size w w' := by
  obtain ⟨f, M, n1, n2, n3, n4, n5⟩ := hn
  have hbl := n3.lt
  have HG := Lib.hid n3
  have HRW := Lib.hid (show RowsG w b s f from n5)
  have HSM := Lib.hid n4
  have HNN := Lib.hid hN
  obtain ⟨n, hnM⟩ : ∃ n, n = M.length := ⟨_, rfl⟩
  rw [← hnM] at HG
  obtain ⟨P, hP⟩ : ∃ P : Ending → World → Prop, P = fun e w' => ∃ v o, e = .returned v ∧ Topo N (chL s) [] o ∧ NumRow w' w.heap.size v o ∧ Below w.heap.size w w' := ⟨_, rfl⟩
  have HPP := Lib.hid hP
  rw [← hP]
  have hmm := @run_makeMap Try.prog
  obtain ⟨iN, ni, nz0, nz1, nz2⟩ := info_parts infoInt
  have HIN := Lib.hid (And.intro ni (And.intro nz0 (And.intro nz1 nz2)))
  have HML := Lib.hid (show maxLen = 9223372036854775807 from rfl)
  clear ni nz0 nz1 nz2
  clear n1 n2 n3 n4 n5 hnM hP hN
  go_enter Try.func37, Try.ntmps37
  go_wp2_with (first | (at_range; refine wpList_range_mapG _ rfl (.tmp 11) 57 rfl Try.underlying57 b n f rfl HG.out ?_; intro w1 hrg1 hb1 hs1) | go_in)
  go_frame
  have HR1 := Lib.hid hrg1
  have HB1 := Lib.hid hb1
  clear hrg1 hb1
  go_loopw [3] (fun v wr => Bg w b n s N f v wr) (fun _ wr => wr.rangeLeft b w.heap.size)
  case atStart => exact ⟨[], _, InB.nil _ _, HR1.out, BegT.start (fun j hj => by rw [HSM.out j]; exact hj), fun x hx => by rw [HSM.out x] at hx; exact hx, HB1.out, by omega⟩
  case round =>
    obtain ⟨free, left, hi, hrg, hbt, hlN, hb, hsz⟩ := hrel
    have HI := Lib.hid hi
    have HRG := Lib.hid hrg
    have HBT := Lib.hid hbt
    have HLN := Lib.hid hlN
    have HB := Lib.hid hb
    clear hi hrg hbt hlN hb
    go_wp2_with (first | (at_next; refine wpList_next_mapG _ rfl (.tmp 12) rfl b w.heap.size n f left rfl HRG.out ?_ ?_) | go_in)
    · intro hdone
      have HFL := Lib.hid (show FrL N (chL s) [] free from HBT.out.done (fun j => by
        cases hj : left j
        · rfl
        · have hb := HNN.out j (HLN.out j hj)
          rw [hdone j (by unfold i64ok; omega)] at hj; cases hj))
      have HO0 := Lib.hid (show Ot w wr.heap.size [] free u3 (.slice none 0 0) (wr.alloc (.map #[] 0)) from
        ⟨HI.out.below ((Below.refl _ _).alloc (Nat.le_refl _) _), World.ownsRow_nil _ _ _ _, fun y _ => by simp [Value.ownBlock], (MapB.made wr).congr (fun x _ => by simp), fun y hy => by have := (HI.out.ge hy).2; omega, by simp [Value.ownBlock], HB.out.alloc HB.out.size _, by have := hsz; simp; omega⟩)
      obtain ⟨bm, hbm⟩ : ∃ bm, bm = wr.heap.size := ⟨_, rfl⟩
      rw [← hbm] at HO0
      have HBM := Lib.hid hbm
      clear hdone
      go_wp2_with fail
      rw [← HBM.out]
      clear hbm
      go_loopw [3, 4] (fun v3 v4 wr => ∃ free out, Ot w bm out free v3 v4 wr ∧ FrL N (chL s) out free ∧ TopS N (chL s) out ∧ (∀ r, Topo N (chL s) out r → Topo N (chL s) [] r)) (fun _ v4 _ => 11 - lnV v4)
      case atStart => exact ⟨free, [], HO0.out, HFL.out, TopS.start, fun _ h => h⟩
      case round =>
        obtain ⟨free, out, ho, hfl, hts, hgo⟩ := hrel
        have HOT := Lib.hid ho
        have HF2 := Lib.hid hfl
        have HTS := Lib.hid hts
        have HGO := Lib.hid hgo
        clear hfl hts hgo HI HRG HBT HLN HB HFL HO0 HBM
        cases free with
        | nil =>
          obtain ⟨a3, c3, hv3⟩ := ho.fr.len0
          have HV3 := Lib.hid hv3
          clear hv3 ho
          obtain rfl := HV3.out
          go_wp2_with fail
          rw [HPP.out]
          exact ⟨_, out, rfl, HGO.out _ HF2.out.stop, ownsRow_low HOT.out.ou (by omega), HOT.out.bl⟩
        | cons k q =>
          obtain ⟨g, o, c, hv3, hqc, hcm, hgl, hck⟩ := ho.fr.head
          have hkN := (frT_iff.1 HF2.out.head.1).1
          have hkb := HNN.out k hkN
          have hki : i64ok k := by unfold i64ok; omega
          have HKI := Lib.hid hki
          have HOL := Lib.hid (show out.length ≤ s.m.length from HTS.out.len HNN.out)
          obtain ⟨m, hm⟩ : ∃ m, m = q.length := ⟨_, rfl⟩
          rw [← hm] at hv3 hqc
          have HM := Lib.hid hm
          have HV3 := Lib.hid hv3
          clear hv3 hm
          by_cases hc1 : c = 1
          · subst hc1
            obtain rfl : m = 0 := by omega
            have HFR1 := Lib.hid (show InB wr (w.heap.size + 1) (.slice (some ⟨g, o, none⟩) (0 + 1) 1) (k :: q) by rw [← HV3.out]; exact ho.fr)
            have HIQ := Lib.hid (show InB wr (w.heap.size + 1) (.slice (some ⟨g, o, none⟩) 0 0) q by rw [(HFR1.out.tail0).1]; exact (HFR1.out.tail0).2)
            have HAQ := Lib.hid (show ∀ y, AtV (.slice (some ⟨g, o, none⟩) 0 0) y → AtV (.slice (some ⟨g, o, none⟩) (0 + 1) 1) y from fun y hy => AtV.at (atv_at hy))
            clear ho
            obtain rfl := HV3.out
            have hnle : out.length ≤ 9 := by
              have h := (HTS.out.next HF2.out.head.1).len HNN.out
              rw [List.length_append, List.length_singleton] at h
              omega
            have HNL := Lib.hid hnle
            have hszr := HOT.out.sz
            clear hnle
            go_wp2_with (at_builtin; refine wpList_append_row _ rfl (.tmp 33) (.tmp 35) 26 rfl (w.heap.size + 1) 3 iN (.int .i64 0) 1 8 Try.underlying26 HIN.out.1 HIN.out.2.1 HIN.out.2.2.1 HIN.out.2.2.2 rfl (by decide) _ out.length (out.map (Value.int .i64)) rfl (World.ownsRow.alloc HOT.out.ou _) ⟨wr.heap.size, 0, none⟩ 1 1 [.int .i64 k] rfl rfl ?d1 ?d2 (by decide) ?d3 ?d4 ?d5 ?_)
            case d2 => simp [Value.oneCell']
            case d3 => rw [HML.out]; have := HNL.out; omega
            case d4 => have := HNL.out; omega
            case d5 => first | omega | (simp; omega)
            intro v5 w5 hown hgr hnew
            have hn5 : NumRow w5 (w.heap.size + 1) v5 (out ++ [k]) := by
              unfold NumRow
              rw [List.map_append, show (out ++ [k]).length = out.length + 1 by simp]
              exact hown
            have hfa : Fr (fun y => Value.ownBlock _ = some y) wr w5 := (show Fr (fun y => Value.ownBlock _ = some y) wr _ from Fr.of_below ((Below.refl wr.heap.size wr).alloc (Nat.le_refl _) (.cells #[.int .i64 k] 3))).trans (fr_grown hgr) (fun b hb => .inl hb)
            have hge4 := fun y hy => own_ge HOT.out.ou y hy
            have HN5 := Lib.hid hn5
            have HI5 := Lib.hid (HIQ.out.frA hfa (fun y hy e => HOT.out.dis y (HAQ.out y hy) e))
            have HD5 := Lib.hid (show ∀ y, AtV _ y → v5.ownBlock ≠ some y ∧ y ≠ bm from fun y hy => ⟨fun e => by
              rcases hnew y e with h | h
              · exact HOT.out.dis y (HAQ.out y hy) h
              · have := (HIQ.out.ge hy).2; omega, HOT.out.d3 y (HAQ.out y hy)⟩)
            have HM5 := Lib.hid (HOT.out.mp.fr hfa (fun e => HOT.out.d4 e))
            have HV5 := Lib.hid (show v5.ownBlock ≠ some bm from fun e => by
              rcases hnew bm e with h | h
              · exact HOT.out.d4 h
              · omega)
            have hs5 := hfa.2.2.2.1
            have HB5 := Lib.hid (show Below w.heap.size w w5 from HOT.out.bl.trans ⟨hfa.1, hfa.2.1, hfa.2.2.1, hs5, fun i hi => hfa.2.2.2.2 i (by omega) (fun e => by have := hge4 i e; omega)⟩)
            clear hown hgr hnew hn5 hfa hge4
            go_wp2_with (at_mapUpdate; refine wpList_put_mapB _ rfl _ _ _ 67 rfl Try.underlying67 bm out.length _ rfl HM5.out (by rw [HML.out]; have := HNL.out; omega) k rfl HKI.out rfl ?_)
            intro w6 hM6 hf6
            have hs6 := hf6.2.2.2.1
            have HI6 := Lib.hid (HI5.out.frA hf6 (fun y hy e => (HD5.out y hy).2 e))
            have HN6 := Lib.hid (show NumRow w6 (w.heap.size + 1) v5 (out ++ [k]) from ownsRow_fr HN5.out hf6 (fun y hy e => by subst e; exact HV5.out hy))
            have HM6 := Lib.hid (hM6.congr (f' := fun y => decide (y ∈ out ++ [k])) (fun x _ => by
              rw [Bool.eq_iff_iff, Bool.or_eq_true, decide_eq_true_eq, decide_eq_true_eq, decide_eq_true_eq, List.mem_append, List.mem_singleton]))
            have HB6 := Lib.hid (show Below w.heap.size w w6 from HB5.out.trans ⟨hf6.1, hf6.2.1, hf6.2.2.1, hs6, fun i hi => hf6.2.2.2.2 i (by omega) (by omega)⟩)
            have HG6 := Lib.hid (HG.out.step HB6.out)
            clear hM6 hf6
            go_wp2_with (first | (at_range; refine wpList_range_mapG _ rfl (.tmp 39) 57 rfl Try.underlying57 b n f rfl HG6.out ?_; intro w7 hrg7 hb7 hs7) | go_in)
            go_frame
            obtain ⟨r2, hr2⟩ : ∃ r, r = w6.heap.size := ⟨_, rfl⟩
            have HV6 := Lib.hid (show v5.ownBlock ≠ some r2 from fun e => by have := (World.ownsRow.lt HN6.out r2 e).2; omega)
            have HRG7 := Lib.hid hrg7
            rw [← hr2] at HRG7 ⊢
            have HST := Lib.hid (show InB w7 (w.heap.size + 1) _ q ∧ (∀ y, AtV _ y → (v5.ownBlock ≠ some y ∧ y ≠ bm) ∧ y ≠ r2) ∧ NumRow w7 (w.heap.size + 1) v5 (out ++ [k]) ∧ MapB w7 bm (out.length + 1) (fun y => decide (y ∈ out ++ [k])) ∧ Below w.heap.size w w7 ∧ r2 < w7.heap.size ∧ bm < r2 from
              ⟨HI6.out.below hb7, fun y hy => ⟨HD5.out y hy, by have := (HI6.out.ge hy).2; omega⟩, ElRow.below (f := Value.int .i64) (e := 3) HN6.out hb7, HM6.out.step hb7, HB6.out.trans (hb7.mono HB6.out.size), by omega, by omega⟩)
            have hbr : bm < r2 := by omega
            have hwr2 : w.heap.size + 1 < r2 := by omega
            clear hrg7 hb7 hr2 HI5 HI6 HN5 HN6 HM5 HM6 HB5 HB6 HG6 HD5
            go_loopw [3] (fun v3 w8 => ∃ free' left, InB w8 (w.heap.size + 1) v3 free' ∧ (∀ y, AtV v3 y → (v5.ownBlock ≠ some y ∧ y ≠ bm) ∧ y ≠ r2) ∧ RgG w8 b r2 n f left ∧ MidT N (chL s) out q k left free' ∧ (∀ x, left x = true → N x = true) ∧ NumRow w8 (w.heap.size + 1) v5 (out ++ [k]) ∧ MapB w8 bm (out.length + 1) (fun y => decide (y ∈ out ++ [k])) ∧ Below w.heap.size w w8 ∧ r2 < w8.heap.size) (fun _ w8 => w8.rangeLeft b r2)
            case atStart => exact ⟨q, _, HST.out.1, HST.out.2.1, HRG7.out, MidT.start HF2.out (fun j hj => by rw [HSM.out j]; exact hj), fun x hx => by rw [HSM.out x] at hx; exact hx, HST.out.2.2.1, HST.out.2.2.2.1, HST.out.2.2.2.2.1, HST.out.2.2.2.2.2.1⟩
            case round =>
              obtain ⟨free', left, hi, hd3, hrg, hmt, hlN, hnr, hmb, hbw, hrl⟩ := hrel
              have HI8 := Lib.hid hi
              have HD8 := Lib.hid hd3
              have HRG := Lib.hid hrg
              have HMT := Lib.hid hmt
              have HLN := Lib.hid hlN
              have HN8 := Lib.hid hnr
              have HM8 := Lib.hid hmb
              have HB8 := Lib.hid hbw
              clear hi hd3 hrg hmt hlN hnr hmb hbw HST HRG7
              go_wp2_with (first | (at_next; refine wpList_next_mapG _ rfl (.tmp 40) rfl b r2 n f left rfl HRG.out ?_ ?_) | go_in)
              · intro hdone
                have HFL := Lib.hid (HMT.out.done HTS.out HF2.out (fun j => by
                  cases hj : left j
                  · rfl
                  · have hb := HNN.out j (HLN.out j hj)
                    rw [hdone j (by unfold i64ok; omega)] at hj; cases hj))
                have HON := Lib.hid (show Ot w bm (out ++ [k]) free' _ v5 wr from ⟨HI8.out, HN8.out, fun y hy => (HD8.out y hy).1.1, by rw [List.length_append, List.length_singleton]; exact HM8.out, fun y hy => (HD8.out y hy).1.2, HV5.out, HB8.out, ⟨hszr.1, by omega⟩⟩)
                clear hdone
                go_wp2_with fail
                go_roundw
                case rel => exact ⟨free', out ++ [k], HON.out, HFL.out, HTS.out.next HF2.out.head.1, fun r hr => HGO.out _ (HF2.out.step hr)⟩
                case measure =>
                  rw [numRow_len HN8.out, numRow_len HOT.out.ou]
                  have := HNL.out
                  simp
                  omega
              · intro x hd w2 hx hl hf hrg2 hlt hfr hsz2 hen
                have hb2 : Below w.heap.size w w2 := HB8.out.trans ⟨hfr.1, hfr.2.1, hfr.2.2.1, hfr.2.2.2.1, fun i hi => hfr.2.2.2.2 i (by omega) (by omega)⟩
                have hrow := ElRow.below (f := Value.int .i64) (e := 3) (HRW.out x hd hf) hb2
                obtain ⟨ar, cr, hmk, hia⟩ := NumRow.at (show NumRow w2 (b + 1) (mkH hd) (chL s x) from hrow) (fun z hz => by have := chL_bd hz; unfold i64ok; omega)
                rw [hmk] at hen ⊢
                have HI2 := Lib.hid (HI8.out.frA hfr (fun y hy e => (HD8.out y hy).2 e))
                have HR2 := Lib.hid hrg2
                have HB2 := Lib.hid hb2
                have HN2 := Lib.hid (show NumRow w2 (w.heap.size + 1) v5 (out ++ [k]) from ownsRow_fr HN8.out hfr (fun y hy e => by subst e; exact HV6.out hy))
                have HM2 := Lib.hid (HM8.out.fr hfr (by omega))
                have HNX := Lib.hid (HLN.out x hl)
                have HLX := Lib.hid hl
                have HLT := Lib.hid hlt
                have hfl10 : free'.length ≤ 10 := asc_len HNN.out hn10 HMT.out.asc (fun j hj => by
                  rcases (HMT.out.mem j).1 hj with h | h
                  · exact (frT_iff.1 ((HF2.out.mem j).1 (by simp [h]))).1
                  · exact h.2.1)
                have HLN2 := Lib.hid (show ∀ z, (left z && !decide (z = x)) = true → N z = true from fun z hz => HLN.out z (by rw [Bool.and_eq_true] at hz; exact hz.1))
                have HPASS := Lib.hid (fun (hn : ¬ (k ∈ chL s x ∧ ∀ c ∈ chL s x, c ∈ out ++ [k])) => HMT.out.pass (left' := fun z => left z && !decide (z = x)) (j := x) (fun i => rfl) hn)
                have HPUT := Lib.hid (fun (h1 : k ∈ chL s x) (h2 : ∀ c ∈ chL s x, c ∈ out ++ [k]) => HMT.out.put (left' := fun z => left z && !decide (z = x)) HF2.out HLX.out (fun i => rfl) HNX.out h1 h2)
                have HCT := Lib.hid (contains_any w2 _ (chL s x) ar cr k hia)
                have HAB := Lib.hid (allBuilt_any (chL s x) w2 _ ar cr bm (out.length + 1) _ hia HM2.out)
                have HPS := Lib.hid (putSorted_any w2 (w.heap.size + 1) _ free' x HI2.out HMT.out.asc (by omega) (by omega))
                obtain ⟨L, hL⟩ : ∃ L, L = chL s x := ⟨_, rfl⟩
                rw [← hL] at HPASS HPUT HCT HAB hen ⊢
                clear hrow hmk hia hb2 hl hf hfr hrg2 hlt hL
                by_cases hkm : k ∈ L
                · rw [decide_eq_true hkm] at HCT
                  have HKM := Lib.hid hkm
                  cases hall : L.all (fun y => decide (y ∈ out ++ [k]))
                  · rw [hall] at HAB
                    have HMN := Lib.hid (HPASS.out (fun hn => by
                      have : L.all (fun y => decide (y ∈ out ++ [k])) = true := List.all_eq_true.2 (fun c hc => decide_eq_true (hn.2 c hc))
                      rw [hall] at this; cases this))
                    clear hkm hall
                    go_wp2_with fail
                    refine HCT.out.mono ?_
                    rintro e w3 ⟨rfl, rfl⟩
                    go_wp2_with fail
                    refine HAB.out.mono ?_
                    rintro e w3 ⟨rfl, rfl⟩
                    go_wp2_with fail
                    go_roundw
                    case rel => exact ⟨free', _, HI2.out, HD8.out, HR2.out, HMN.out, HLN2.out, HN2.out, HM2.out, HB2.out, by omega⟩
                    case measure => exact HLT.out
                  · rw [hall] at HAB
                    have HPT := Lib.hid (HPUT.out hkm (fun c hc => of_decide_eq_true (List.all_eq_true.1 hall c hc)))
                    clear hkm hall
                    go_wp2_with fail
                    refine HCT.out.mono ?_
                    rintro e w3 ⟨rfl, rfl⟩
                    go_wp2_with fail
                    refine HAB.out.mono ?_
                    rintro e w3 ⟨rfl, rfl⟩
                    go_wp2_with fail
                    refine HPS.out.mono ?_
                    rintro e w4 ⟨v', rfl, hin, hfr3, hat3⟩
                    have hb3 : ∀ y, AtV _ y → w.heap.size + 1 ≤ y := fun y hy => (HI2.out.ge hy).1
                    have HI3 := Lib.hid hin
                    have HR3 := Lib.hid (HR2.out.fr hfr3 (fun h => by have := hb3 _ h; omega) (fun h => (HD8.out _ h).2 rfl))
                    have HB3 := Lib.hid (HB2.out.trans ⟨hfr3.1, hfr3.2.1, hfr3.2.2.1, hfr3.2.2.2.1, fun i hi => hfr3.2.2.2.2 i (by have := HB2.out.size; omega) (fun h => by have := hb3 _ h; omega)⟩)
                    have HN3 := Lib.hid (show NumRow w4 (w.heap.size + 1) v5 (out ++ [k]) from ownsRow_fr HN2.out hfr3 (fun y hy h => (HD8.out _ h).1.1 hy))
                    have HM3 := Lib.hid (HM2.out.fr hfr3 (fun h => (HD8.out _ h).1.2 rfl))
                    have HD3 := Lib.hid (show ∀ y, AtV v' y → (v5.ownBlock ≠ some y ∧ y ≠ bm) ∧ y ≠ r2 from fun y hy => by
                      rcases hat3 y hy with h | h
                      · exact HD8.out y h
                      · exact ⟨⟨fun e => by have := (World.ownsRow.lt HN2.out y e).2; omega, by omega⟩, by omega⟩)
                    have hml : w4.rangeLeft b r2 < wr.rangeLeft b r2 := by
                      rw [rangeLeft_fr (hfr3.2.2.2.2 b (by have := HB2.out.size; omega) (fun h => by have := hb3 _ h; omega)) (hfr3.2.2.2.2 r2 (by omega) (fun h => (HD8.out _ h).2 rfl))]
                      exact HLT.out
                    have hs3 := hfr3.2.2.2.1
                    clear hin hfr3 hat3 hb3 hen HPS HCT HAB
                    go_wp2_with fail
                    go_roundw
                    case rel => exact ⟨_, _, HI3.out, HD3.out, HR3.out, HPT.out.2, HLN2.out, HN3.out, HM3.out, HB3.out, by omega⟩
                    case measure => exact hml
                · rw [decide_eq_false hkm] at HCT
                  have HMN := Lib.hid (HPASS.out (fun hn => hkm hn.1))
                  clear hkm
                  go_wp2_with fail
                  refine HCT.out.mono ?_
                  rintro e w3 ⟨rfl, rfl⟩
                  go_wp2_with fail
                  go_roundw
                  case rel => exact ⟨free', _, HI2.out, HD8.out, HR2.out, HMN.out, HLN2.out, HN2.out, HM2.out, HB2.out, by omega⟩
                  case measure => exact HLT.out
          · obtain ⟨c2, rfl⟩ : ∃ c2, c = c2 + 1 + 1 := ⟨c - 2, by omega⟩
            have HFR1 := Lib.hid (show InB wr (w.heap.size + 1) (.slice (some ⟨g, o, none⟩) (m + 1) (c2 + 1 + 1)) (k :: q) by rw [← HV3.out]; exact ho.fr)
            have HIQ := Lib.hid (show InB wr (w.heap.size + 1) (.slice (some ⟨g, o + 1, none⟩) m (c2 + 1)) q from HFR1.out.tail)
            have HAQ := Lib.hid (show ∀ y, AtV (.slice (some ⟨g, o + 1, none⟩) m (c2 + 1)) y → AtV (.slice (some ⟨g, o, none⟩) (m + 1) (c2 + 1 + 1)) y from fun y hy => AtV.at (atv_at hy))
            have hm0 : (0 : Int) < (m : Int) + 1 := by omega
            have hm1 : (1 : Int) ≤ (m : Int) + 1 := by omega
            clear ho hc1
            obtain rfl := HV3.out
            have hnle : out.length ≤ 9 := by
              have h := (HTS.out.next HF2.out.head.1).len HNN.out
              rw [List.length_append, List.length_singleton] at h
              omega
            have HNL := Lib.hid hnle
            have hszr := HOT.out.sz
            clear hnle
            go_wp2_with (at_builtin; refine wpList_append_row _ rfl (.tmp 33) (.tmp 35) 26 rfl (w.heap.size + 1) 3 iN (.int .i64 0) 1 8 Try.underlying26 HIN.out.1 HIN.out.2.1 HIN.out.2.2.1 HIN.out.2.2.2 rfl (by decide) _ out.length (out.map (Value.int .i64)) rfl (World.ownsRow.alloc HOT.out.ou _) ⟨wr.heap.size, 0, none⟩ 1 1 [.int .i64 k] rfl rfl ?d1 ?d2 (by decide) ?d3 ?d4 ?d5 ?_)
            case d2 => simp [Value.oneCell']
            case d3 => rw [HML.out]; have := HNL.out; omega
            case d4 => have := HNL.out; omega
            case d5 => first | omega | (simp; omega)
            intro v5 w5 hown hgr hnew
            have hn5 : NumRow w5 (w.heap.size + 1) v5 (out ++ [k]) := by
              unfold NumRow
              rw [List.map_append, show (out ++ [k]).length = out.length + 1 by simp]
              exact hown
            have hfa : Fr (fun y => Value.ownBlock _ = some y) wr w5 := (show Fr (fun y => Value.ownBlock _ = some y) wr _ from Fr.of_below ((Below.refl wr.heap.size wr).alloc (Nat.le_refl _) (.cells #[.int .i64 k] 3))).trans (fr_grown hgr) (fun b hb => .inl hb)
            have hge4 := fun y hy => own_ge HOT.out.ou y hy
            have HN5 := Lib.hid hn5
            have HI5 := Lib.hid (HIQ.out.frA hfa (fun y hy e => HOT.out.dis y (HAQ.out y hy) e))
            have HD5 := Lib.hid (show ∀ y, AtV _ y → v5.ownBlock ≠ some y ∧ y ≠ bm from fun y hy => ⟨fun e => by
              rcases hnew y e with h | h
              · exact HOT.out.dis y (HAQ.out y hy) h
              · have := (HIQ.out.ge hy).2; omega, HOT.out.d3 y (HAQ.out y hy)⟩)
            have HM5 := Lib.hid (HOT.out.mp.fr hfa (fun e => HOT.out.d4 e))
            have HV5 := Lib.hid (show v5.ownBlock ≠ some bm from fun e => by
              rcases hnew bm e with h | h
              · exact HOT.out.d4 h
              · omega)
            have hs5 := hfa.2.2.2.1
            have HB5 := Lib.hid (show Below w.heap.size w w5 from HOT.out.bl.trans ⟨hfa.1, hfa.2.1, hfa.2.2.1, hs5, fun i hi => hfa.2.2.2.2 i (by omega) (fun e => by have := hge4 i e; omega)⟩)
            clear hown hgr hnew hn5 hfa hge4
            go_wp2_with (at_mapUpdate; refine wpList_put_mapB _ rfl _ _ _ 67 rfl Try.underlying67 bm out.length _ rfl HM5.out (by rw [HML.out]; have := HNL.out; omega) k rfl HKI.out rfl ?_)
            intro w6 hM6 hf6
            have hs6 := hf6.2.2.2.1
            have HI6 := Lib.hid (HI5.out.frA hf6 (fun y hy e => (HD5.out y hy).2 e))
            have HN6 := Lib.hid (show NumRow w6 (w.heap.size + 1) v5 (out ++ [k]) from ownsRow_fr HN5.out hf6 (fun y hy e => by subst e; exact HV5.out hy))
            have HM6 := Lib.hid (hM6.congr (f' := fun y => decide (y ∈ out ++ [k])) (fun x _ => by
              rw [Bool.eq_iff_iff, Bool.or_eq_true, decide_eq_true_eq, decide_eq_true_eq, decide_eq_true_eq, List.mem_append, List.mem_singleton]))
            have HB6 := Lib.hid (show Below w.heap.size w w6 from HB5.out.trans ⟨hf6.1, hf6.2.1, hf6.2.2.1, hs6, fun i hi => hf6.2.2.2.2 i (by omega) (by omega)⟩)
            have HG6 := Lib.hid (HG.out.step HB6.out)
            clear hM6 hf6
            go_wp2_with (first | (at_range; refine wpList_range_mapG _ rfl (.tmp 39) 57 rfl Try.underlying57 b n f rfl HG6.out ?_; intro w7 hrg7 hb7 hs7) | go_in)
            go_frame
            obtain ⟨r2, hr2⟩ : ∃ r, r = w6.heap.size := ⟨_, rfl⟩
            have HV6 := Lib.hid (show v5.ownBlock ≠ some r2 from fun e => by have := (World.ownsRow.lt HN6.out r2 e).2; omega)
            have HRG7 := Lib.hid hrg7
            rw [← hr2] at HRG7 ⊢
            have HST := Lib.hid (show InB w7 (w.heap.size + 1) _ q ∧ (∀ y, AtV _ y → (v5.ownBlock ≠ some y ∧ y ≠ bm) ∧ y ≠ r2) ∧ NumRow w7 (w.heap.size + 1) v5 (out ++ [k]) ∧ MapB w7 bm (out.length + 1) (fun y => decide (y ∈ out ++ [k])) ∧ Below w.heap.size w w7 ∧ r2 < w7.heap.size ∧ bm < r2 from
              ⟨HI6.out.below hb7, fun y hy => ⟨HD5.out y hy, by have := (HI6.out.ge hy).2; omega⟩, ElRow.below (f := Value.int .i64) (e := 3) HN6.out hb7, HM6.out.step hb7, HB6.out.trans (hb7.mono HB6.out.size), by omega, by omega⟩)
            have hbr : bm < r2 := by omega
            have hwr2 : w.heap.size + 1 < r2 := by omega
            clear hrg7 hb7 hr2 HI5 HI6 HN5 HN6 HM5 HM6 HB5 HB6 HG6 HD5
            go_loopw [3] (fun v3 w8 => ∃ free' left, InB w8 (w.heap.size + 1) v3 free' ∧ (∀ y, AtV v3 y → (v5.ownBlock ≠ some y ∧ y ≠ bm) ∧ y ≠ r2) ∧ RgG w8 b r2 n f left ∧ MidT N (chL s) out q k left free' ∧ (∀ x, left x = true → N x = true) ∧ NumRow w8 (w.heap.size + 1) v5 (out ++ [k]) ∧ MapB w8 bm (out.length + 1) (fun y => decide (y ∈ out ++ [k])) ∧ Below w.heap.size w w8 ∧ r2 < w8.heap.size) (fun _ w8 => w8.rangeLeft b r2)
            case atStart => exact ⟨q, _, HST.out.1, HST.out.2.1, HRG7.out, MidT.start HF2.out (fun j hj => by rw [HSM.out j]; exact hj), fun x hx => by rw [HSM.out x] at hx; exact hx, HST.out.2.2.1, HST.out.2.2.2.1, HST.out.2.2.2.2.1, HST.out.2.2.2.2.2.1⟩
            case round =>
              obtain ⟨free', left, hi, hd3, hrg, hmt, hlN, hnr, hmb, hbw, hrl⟩ := hrel
              have HI8 := Lib.hid hi
              have HD8 := Lib.hid hd3
              have HRG := Lib.hid hrg
              have HMT := Lib.hid hmt
              have HLN := Lib.hid hlN
              have HN8 := Lib.hid hnr
              have HM8 := Lib.hid hmb
              have HB8 := Lib.hid hbw
              clear hi hd3 hrg hmt hlN hnr hmb hbw HST HRG7
              go_wp2_with (first | (at_next; refine wpList_next_mapG _ rfl (.tmp 40) rfl b r2 n f left rfl HRG.out ?_ ?_) | go_in)
              · intro hdone
                have HFL := Lib.hid (HMT.out.done HTS.out HF2.out (fun j => by
                  cases hj : left j
                  · rfl
                  · have hb := HNN.out j (HLN.out j hj)
                    rw [hdone j (by unfold i64ok; omega)] at hj; cases hj))
                have HON := Lib.hid (show Ot w bm (out ++ [k]) free' _ v5 wr from ⟨HI8.out, HN8.out, fun y hy => (HD8.out y hy).1.1, by rw [List.length_append, List.length_singleton]; exact HM8.out, fun y hy => (HD8.out y hy).1.2, HV5.out, HB8.out, ⟨hszr.1, by omega⟩⟩)
                clear hdone
                go_wp2_with fail
                go_roundw
                case rel => exact ⟨free', out ++ [k], HON.out, HFL.out, HTS.out.next HF2.out.head.1, fun r hr => HGO.out _ (HF2.out.step hr)⟩
                case measure =>
                  rw [numRow_len HN8.out, numRow_len HOT.out.ou]
                  have := HNL.out
                  simp
                  omega
              · intro x hd w2 hx hl hf hrg2 hlt hfr hsz2 hen
                have hb2 : Below w.heap.size w w2 := HB8.out.trans ⟨hfr.1, hfr.2.1, hfr.2.2.1, hfr.2.2.2.1, fun i hi => hfr.2.2.2.2 i (by omega) (by omega)⟩
                have hrow := ElRow.below (f := Value.int .i64) (e := 3) (HRW.out x hd hf) hb2
                obtain ⟨ar, cr, hmk, hia⟩ := NumRow.at (show NumRow w2 (b + 1) (mkH hd) (chL s x) from hrow) (fun z hz => by have := chL_bd hz; unfold i64ok; omega)
                rw [hmk] at hen ⊢
                have HI2 := Lib.hid (HI8.out.frA hfr (fun y hy e => (HD8.out y hy).2 e))
                have HR2 := Lib.hid hrg2
                have HB2 := Lib.hid hb2
                have HN2 := Lib.hid (show NumRow w2 (w.heap.size + 1) v5 (out ++ [k]) from ownsRow_fr HN8.out hfr (fun y hy e => by subst e; exact HV6.out hy))
                have HM2 := Lib.hid (HM8.out.fr hfr (by omega))
                have HNX := Lib.hid (HLN.out x hl)
                have HLX := Lib.hid hl
                have HLT := Lib.hid hlt
                have hfl10 : free'.length ≤ 10 := asc_len HNN.out hn10 HMT.out.asc (fun j hj => by
                  rcases (HMT.out.mem j).1 hj with h | h
                  · exact (frT_iff.1 ((HF2.out.mem j).1 (by simp [h]))).1
                  · exact h.2.1)
                have HLN2 := Lib.hid (show ∀ z, (left z && !decide (z = x)) = true → N z = true from fun z hz => HLN.out z (by rw [Bool.and_eq_true] at hz; exact hz.1))
                have HPASS := Lib.hid (fun (hn : ¬ (k ∈ chL s x ∧ ∀ c ∈ chL s x, c ∈ out ++ [k])) => HMT.out.pass (left' := fun z => left z && !decide (z = x)) (j := x) (fun i => rfl) hn)
                have HPUT := Lib.hid (fun (h1 : k ∈ chL s x) (h2 : ∀ c ∈ chL s x, c ∈ out ++ [k]) => HMT.out.put (left' := fun z => left z && !decide (z = x)) HF2.out HLX.out (fun i => rfl) HNX.out h1 h2)
                have HCT := Lib.hid (contains_any w2 _ (chL s x) ar cr k hia)
                have HAB := Lib.hid (allBuilt_any (chL s x) w2 _ ar cr bm (out.length + 1) _ hia HM2.out)
                have HPS := Lib.hid (putSorted_any w2 (w.heap.size + 1) _ free' x HI2.out HMT.out.asc (by omega) (by omega))
                obtain ⟨L, hL⟩ : ∃ L, L = chL s x := ⟨_, rfl⟩
                rw [← hL] at HPASS HPUT HCT HAB hen ⊢
                clear hrow hmk hia hb2 hl hf hfr hrg2 hlt hL
                by_cases hkm : k ∈ L
                · rw [decide_eq_true hkm] at HCT
                  have HKM := Lib.hid hkm
                  cases hall : L.all (fun y => decide (y ∈ out ++ [k]))
                  · rw [hall] at HAB
                    have HMN := Lib.hid (HPASS.out (fun hn => by
                      have : L.all (fun y => decide (y ∈ out ++ [k])) = true := List.all_eq_true.2 (fun c hc => decide_eq_true (hn.2 c hc))
                      rw [hall] at this; cases this))
                    clear hkm hall
                    go_wp2_with fail
                    refine HCT.out.mono ?_
                    rintro e w3 ⟨rfl, rfl⟩
                    go_wp2_with fail
                    refine HAB.out.mono ?_
                    rintro e w3 ⟨rfl, rfl⟩
                    go_wp2_with fail
                    go_roundw
                    case rel => exact ⟨free', _, HI2.out, HD8.out, HR2.out, HMN.out, HLN2.out, HN2.out, HM2.out, HB2.out, by omega⟩
                    case measure => exact HLT.out
                  · rw [hall] at HAB
                    have HPT := Lib.hid (HPUT.out hkm (fun c hc => of_decide_eq_true (List.all_eq_true.1 hall c hc)))
                    clear hkm hall
                    go_wp2_with fail
                    refine HCT.out.mono ?_
                    rintro e w3 ⟨rfl, rfl⟩
                    go_wp2_with fail
                    refine HAB.out.mono ?_
                    rintro e w3 ⟨rfl, rfl⟩
                    go_wp2_with fail
                    refine HPS.out.mono ?_
                    rintro e w4 ⟨v', rfl, hin, hfr3, hat3⟩
                    have hb3 : ∀ y, AtV _ y → w.heap.size + 1 ≤ y := fun y hy => (HI2.out.ge hy).1
                    have HI3 := Lib.hid hin
                    have HR3 := Lib.hid (HR2.out.fr hfr3 (fun h => by have := hb3 _ h; omega) (fun h => (HD8.out _ h).2 rfl))
                    have HB3 := Lib.hid (HB2.out.trans ⟨hfr3.1, hfr3.2.1, hfr3.2.2.1, hfr3.2.2.2.1, fun i hi => hfr3.2.2.2.2 i (by have := HB2.out.size; omega) (fun h => by have := hb3 _ h; omega)⟩)
                    have HN3 := Lib.hid (show NumRow w4 (w.heap.size + 1) v5 (out ++ [k]) from ownsRow_fr HN2.out hfr3 (fun y hy h => (HD8.out _ h).1.1 hy))
                    have HM3 := Lib.hid (HM2.out.fr hfr3 (fun h => (HD8.out _ h).1.2 rfl))
                    have HD3 := Lib.hid (show ∀ y, AtV v' y → (v5.ownBlock ≠ some y ∧ y ≠ bm) ∧ y ≠ r2 from fun y hy => by
                      rcases hat3 y hy with h | h
                      · exact HD8.out y h
                      · exact ⟨⟨fun e => by have := (World.ownsRow.lt HN2.out y e).2; omega, by omega⟩, by omega⟩)
                    have hml : w4.rangeLeft b r2 < wr.rangeLeft b r2 := by
                      rw [rangeLeft_fr (hfr3.2.2.2.2 b (by have := HB2.out.size; omega) (fun h => by have := hb3 _ h; omega)) (hfr3.2.2.2.2 r2 (by omega) (fun h => (HD8.out _ h).2 rfl))]
                      exact HLT.out
                    have hs3 := hfr3.2.2.2.1
                    clear hin hfr3 hat3 hb3 hen HPS HCT HAB
                    go_wp2_with fail
                    go_roundw
                    case rel => exact ⟨_, _, HI3.out, HD3.out, HR3.out, HPT.out.2, HLN2.out, HN3.out, HM3.out, HB3.out, by omega⟩
                    case measure => exact hml
                · rw [decide_eq_false hkm] at HCT
                  have HMN := Lib.hid (HPASS.out (fun hn => hkm hn.1))
                  clear hkm
                  go_wp2_with fail
                  refine HCT.out.mono ?_
                  rintro e w3 ⟨rfl, rfl⟩
                  go_wp2_with fail
                  go_roundw
                  case rel => exact ⟨free', _, HI2.out, HD8.out, HR2.out, HMN.out, HLN2.out, HN2.out, HM2.out, HB2.out, by omega⟩
                  case measure => exact HLT.out
    · intro x hd w2 hx hl hf hrg2 hlt hfr hsz2 hen
      have hb2 : Below w.heap.size w w2 := HB.out.trans ⟨hfr.1, hfr.2.1, hfr.2.2.1, hfr.2.2.2.1, fun i hi => hfr.2.2.2.2 i (by omega) (by omega)⟩
      have hrow := ElRow.below (f := Value.int .i64) (e := 3) (HRW.out x hd hf) hb2
      obtain ⟨ar, cr, hmk, hia⟩ := NumRow.at (show NumRow w2 (b + 1) (mkH hd) (chL s x) from hrow) (fun z hz => by have := chL_bd hz; unfold i64ok; omega)
      rw [hmk] at hen ⊢
      have HI2 := Lib.hid (HI.out.frA hfr (fun y hy e => by have := (HI.out.ge hy).1; omega))
      have HR2 := Lib.hid hrg2
      have HB2 := Lib.hid hb2
      have HNX := Lib.hid (HLN.out x hl)
      have HLX := Lib.hid hl
      have HLT := Lib.hid hlt
      have hfl10 : free.length ≤ 10 := asc_len HNN.out hn10 HBT.out.asc (fun k hk => ((HBT.out.mem k).1 hk).2.1)
      obtain ⟨Ln, hLn⟩ : ∃ n, n = (chL s x).length := ⟨_, rfl⟩
      have HLNN := Lib.hid hLn
      rw [← hLn] at hen ⊢
      have HLN2 := Lib.hid (show ∀ z, (left z && !decide (z = x)) = true → N z = true from fun z hz => HLN.out z (by rw [Bool.and_eq_true] at hz; exact hz.1))
      clear hrow hmk hia hb2 hl hf hfr hrg2 hlt hLn
      by_cases h0 : Ln = 0
      · subst h0
        have hce : chL s x = [] := List.length_eq_zero_iff.1 HLNN.out.symm
        have HPT := Lib.hid (HBT.out.put (left' := fun z => left z && !decide (z = x)) HLX.out (fun i => rfl) HNX.out hce)
        have HPS := Lib.hid (putSorted_any w2 (w.heap.size + 1) _ free x HI2.out HBT.out.asc (by omega) (by omega))
        clear hce
        go_wp2_with fail
        refine HPS.out.mono ?_
        rintro e w3 ⟨v', rfl, hin, hfr3, hat3⟩
        have hb3 : ∀ y, AtV _ y → w.heap.size + 1 ≤ y := fun y hy => (HI2.out.ge hy).1
        have HI3 := Lib.hid hin
        have HR3 := Lib.hid (HR2.out.fr hfr3 (fun h => by have := hb3 _ h; omega) (fun h => by have := hb3 _ h; omega))
        have HB3 := Lib.hid (HB2.out.trans ⟨hfr3.1, hfr3.2.1, hfr3.2.2.1, hfr3.2.2.2.1, fun i hi => hfr3.2.2.2.2 i (by omega) (fun h => by have := hb3 _ h; omega)⟩)
        have hml : w3.rangeLeft b w.heap.size < wr.rangeLeft b w.heap.size := by
          rw [rangeLeft_fr (hfr3.2.2.2.2 b (by omega) (fun h => by have := hb3 _ h; omega)) (hfr3.2.2.2.2 w.heap.size (by omega) (fun h => by have := hb3 _ h; omega))]
          exact HLT.out
        have hs3 := hfr3.2.2.2.1
        clear hin hfr3 hat3 hb3 hen HPS
        go_wp2_with fail
        go_roundw
        case rel => exact ⟨_, _, HI3.out, HR3.out, HPT.out.2, HLN2.out, HB3.out, by omega⟩
        case measure => exact hml
      · have h0i : ((Ln : Int) == 0) = false := by simp; omega
        have HPS := Lib.hid (HBT.out.pass (left' := fun z => left z && !decide (z = x)) (j := x) (fun i => rfl) (fun e => by have := HLNN.out; rw [e] at this; exact h0 this))
        go_wp2_with fail
        go_roundw
        case rel => exact ⟨free, _, HI2.out, HR2.out, HPS.out, HLN2.out, HB2.out, by omega⟩
        case measure => exact HLT.out
end Go.Proofs.Ytochgmbeomfkpaa
/- impl.OrderTopo -/
namespace Go.Proofs.Ytochgmbeomfkpaa
open Go.RowKit

theorem nT_of {s : Sh} {ks : List Int} {D : Int → Bool} (h : NotP s.mdI (chL s) (fun _ => false) ks D) : D = nT s ks := by
  funext k
  rw [Bool.eq_iff_iff, h.all k, nT_iff]

theorem Topo.topS {N : Int → Bool} {ch : Int → List Int} {out res : List Int} (h : Topo N ch out res) : TopS N ch out → TopS N ch res := by
  induction h with
  | stop _ => exact id
  | step hk _ _ ih => exact fun hs => ih (hs.next hk)
theorem tpL_bd (s : Sh) (ks : List Int) : (∀ x ∈ tpL s ks, 0 ≤ x ∧ x < 10) ∧ (tpL s ks).length ≤ 160 := by
  unfold tpL
  split
  · rename_i h
    have hs := (h.2.choose_spec).topS TopS.start
    have hok : s.ok = true := by
      have h1 : (safeB s && (hkB s ks && s.ok)) = true := h.1
      rw [Bool.and_eq_true, Bool.and_eq_true] at h1
      exact h1.2.2
    have h10 := (Sh.ok_iff.1 hok).1
    refine ⟨fun x hx => ?_, ?_⟩
    · have := nT_bd (hs.inn x hx); omega
    · have := hs.len (fun _ hk => nT_bd hk); omega
  · exact ⟨(by intro x hx; cases hx), Nat.zero_le _⟩

set_option maxRecDepth 100000 in
set_option maxHeartbeats 4000000 in
theorem implTopo_any (s : Sh) (ks : List Int) (w : World) (S0 S2 : Nat → Prop) (a : Option Addr) (c : Nat) (a' : Option Addr) (c' : Nat) (ak : Option Addr) (ck : Nat) (h0 : ShAt w S0 s a c a' c') (hk0 : IntsAt w S2 ks ak ck) :
    Calls Try.prog 10 #[.agg #[.slice a s.m.length c, .slice a' s.t.length c'], .slice ak ks.length ck] w (OrP (tpB s ks) (tpL s ks) w) := by
  obtain ⟨S, hSd⟩ : ∃ S : Nat → Prop, S = fun b => S0 b ∧ b < w.heap.size := ⟨_, rfl⟩
  have hSl : ∀ b, S b → b < w.heap.size := by rw [hSd]; exact fun b h => h.2
  have h : ShAt w S s a c a' c' := by rw [hSd]; exact h0.lim
  have HSL := Lib.hid hSl
  have K0 := Lib.hid (Ks.start (ty := 32) h)
  have Q0 := Lib.hid ((hk0.lim.weaken (S' := fun y => y < w.heap.size) (fun y hy => hy.2)).alloc (.cells #[.slice a s.m.length c, .slice a' s.t.length c'] 32))
  have P0 := Lib.hid (Blk.new w 32 #[.slice a s.m.length c, .slice a' s.t.length c'])
  have hkl : ks.length ≤ 9223372036854775807 := by have := hk0.1; have := hk0.2.1; omega
  obtain ⟨KL, hKL⟩ : ∃ n, n = ks.length := ⟨_, rfl⟩
  have HKL := Lib.hid hKL
  rw [← hKL] at hkl ⊢
  obtain ⟨b, hb⟩ : ∃ b, b = tpB s ks := ⟨_, rfl⟩
  obtain ⟨L, hL⟩ : ∃ L, L = tpL s ks := ⟨_, rfl⟩
  have HTB := Lib.hid (show tpB s ks = (safeB s && (hkB s ks && s.ok)) from rfl)
  have HNO := Lib.hid (show ∀ (w' : World) (v : Value), tpB s ks = false → Below w.heap.size w w' → NumRow w' w.heap.size v [] → OrP b L w (.returned (.tuple #[v, .bool false])) w' from fun w' v h1 h2 h3 => by rw [hb, hL]; exact OrP.tp_no h1 h2 h3)
  have HYES := Lib.hid (show ∀ (w' : World) (v : Value) (o : List Int), tpB s ks = true → Topo (nT s ks) (chL s) [] o → Below w.heap.size w w' → NumRow w' w.heap.size v o → OrP b L w (.returned (.tuple #[v, .bool true])) w' from fun w' v o h1 h2 h3 h4 => by rw [hb, hL]; exact OrP.tp_yes h1 h2 h3 h4)
  rw [← hb, ← hL]
  have hmm := @run_makeMap Try.prog
  clear h h0 hk0 hSd hSl hKL hb hL
  obtain ⟨x0, x1⟩ := K0.out.box
  go_enter Try.func10, Try.ntmps10
  go_wp2_with fail
  refine (implSafe_any s _ S a c a' c' K0.out.2).mono ?_
  rintro e w1 ⟨rfl, hb⟩
  have K1 := Lib.hid (K0.out.step hb)
  have Q1 := Lib.hid (Q0.out.below hb)
  have P1 := Lib.hid (P0.out.below hb (by simp))
  clear hb x0 x1 K0 Q0 P0
  obtain ⟨x0, x1⟩ := K1.out.box
  cases hsf : safeB s
  · have HF := Lib.hid (show tpB s ks = false by rw [HTB.out, hsf]; rfl)
    clear hsf
    go_wp2_with fail
    go_ret2
    exact HNO.out _ _ HF.out K1.out.done (World.ownsRow_nil _ _ _ _)
  have HSF := Lib.hid hsf
  clear hsf
  go_wp2_with fail
  rw [HKL.out]
  refine (hasKeys_any s ks w1 S _ a c a' c' ak ck K1.out.2 Q1.out).mono ?_
  rw [← HKL.out]
  rintro e w2 ⟨rfl, hb⟩
  have K2 := Lib.hid (K1.out.step hb)
  have Q2 := Lib.hid (Q1.out.below hb)
  have P2 := Lib.hid (P1.out.below hb P1.out.lt)
  clear hb x0 x1 K1 Q1 P1
  cases hkb : hkB s ks
  · have HF := Lib.hid (show tpB s ks = false by rw [HTB.out, hkb]; simp)
    clear hkb
    go_wp2_with fail
    go_ret2
    exact HNO.out _ _ HF.out K2.out.done (World.ownsRow_nil _ _ _ _)
  have hok : s.ok = true := by have h := HSF.out; unfold safeB at h; rw [Bool.and_eq_true] at h; exact h.1
  have HOK := Lib.hid hok
  have HTT := Lib.hid (show tpB s ks = true by rw [HTB.out, HSF.out, hkb, hok]; rfl)
  have HKK := Lib.hid (show ∀ x ∈ ks, 0 ≤ x ∧ x < s.m.length from fun x hx => by
    have h := hkb
    unfold hkB at h
    rw [List.all_eq_true] at h
    have h := h x hx
    rwa [decide_eq_true_eq] at h)
  have hm10 : s.m.length ≤ 10 := (Sh.ok_iff.1 hok).1
  have hsz2 := K2.out.size
  have N3 := Lib.hid (NdG.start s w2)
  have T3 := Lib.hid (K2.out.2.alloc (.map #[] 0))
  have P3 := Lib.hid (P2.out.alloc (.map #[] 0))
  have Q3 := Lib.hid (Q2.out.alloc (.map #[] 0))
  have B3 := Lib.hid (K2.out.done.alloc K2.out.done.size (.map #[] 0))
  clear hkb hok K2 Q2 P2
  go_wp2_with fail
  go_loopw [21] (fun i wr => ∃ (q : Nat) (D : Int → Bool), q ≤ KL ∧ i = .int .i64 q ∧ NotP s.mdI (chL s) (fun _ => false) (ks.take q) D ∧ NdG wr w2.heap.size s D ∧ ShAt wr S s a c a' c' ∧ Blk wr w.heap.size 32 #[.slice a s.m.length c, .slice a' s.t.length c'] ∧ IntsAt wr (fun y => y < w.heap.size) ks ak ck ∧ Below w.heap.size w wr ∧ w2.heap.size < wr.heap.size) (fun i _ => KL - (intOf i).toNat)
  case atStart => exact ⟨0, _, by omega, rfl, NotP.nil, N3.out, T3.out, P3.out, Q3.out, B3.out, by simp⟩
  case round =>
    obtain ⟨q, D, hq, rfl, hnp, hnd, hsh, hbk, hia, hbl, hsz⟩ := hrel
    have HNP := Lib.hid hnp
    have HND := Lib.hid hnd
    have HSH := Lib.hid hsh
    have HBK := Lib.hid hbk
    have HIA := Lib.hid hia
    have HBL := Lib.hid hbl
    clear hnp hnd hsh hbk hbl N3 T3 P3 Q3 B3
    obtain ⟨x0, x1, -⟩ := HBK.out.two
    by_cases hlt : q < KL
    · have hlt2 : q < ks.length := by have := HKL.out; omega
      obtain ⟨bi, oi, hai, hbi, _, hx⟩ := hia.get (Below.refl _ _) hlt2
      have hxb := HKK.out ks[q] (List.getElem_mem hlt2)
      have HTK := Lib.hid (show ks.take (q + 1) = ks.take q ++ [ks[q]] from List.take_succ_eq_append_getElem hlt2)
      obtain ⟨xn, hxn⟩ : ∃ xn : Nat, ks[q] = (xn : Int) := ⟨ks[q].toNat, by omega⟩
      rw [hxn] at hx HTK
      have hxs : xn < s.m.length := by omega
      have HAI := Lib.hid hai
      have HCL := Lib.hid (note_all w2.heap.size s HOK.out (s.m.length - cntN D s.m.length) wr D xn S a c a' c' (Nat.le_refl _) HSH.out (fun y hy e => by have := HSL.out y hy; omega) hxs HND.out)
      clear hia hai hxb hxn hlt2
      obtain rfl := HAI.out
      go_wp2_with fail
      refine HCL.out.mono ?_
      rintro e w6 ⟨rfl, ⟨D2, hnp2, hnd2⟩, hf6⟩
      have hs6 := hf6.2.2.2.1
      have H6 := Lib.hid (show NotP s.mdI (chL s) (fun _ => false) (ks.take (q + 1)) D2 ∧ NdG w6 w2.heap.size s D2 ∧ ShAt w6 S s a c a' c' ∧ Blk w6 w.heap.size 32 #[.slice a s.m.length c, .slice a' s.t.length c'] ∧ IntsAt w6 (fun y => y < w.heap.size) ks (some ⟨bi, oi, none⟩) ck ∧ Below w.heap.size w w6 ∧ w2.heap.size < w6.heap.size from
        ⟨by rw [HTK.out]; exact HNP.out.snoc hnp2, hnd2, HSH.out.fr hf6 (fun y hy e => by have := HSL.out y hy; omega), HBK.out.fr hf6 (by omega), HIA.out.fr hf6 (fun y hy e => by omega), HBL.out.trans ⟨hf6.1, hf6.2.1, hf6.2.2.1, hs6, fun i hi => hf6.2.2.2.2 i (by have := HBL.out.size; omega) (by omega)⟩, by omega⟩)
      clear hnp2 hnd2 hf6 x0 x1 hx HCL
      go_wp2_with fail
      go_roundw
      case rel => exact ⟨q + 1, D2, by omega, by go_num, H6.out⟩
      case measure => simp [intOf]; omega
    · have hnt : D = nT s ks := nT_of (by have h := HNP.out; rwa [List.take_of_length_le (by have := HKL.out; omega)] at h)
      have HTO := Lib.hid (topoOrder_any s D wr w2.heap.size HND.out (by rw [hnt]; exact fun k hk => nT_bd hk) hm10)
      rw [hnt] at HTO
      clear hia hnt
      go_wp2_with fail
      refine HTO.out.mono ?_
      rintro e w6 ⟨v, o, rfl, ho, hr, hb⟩
      have HR6 := Lib.hid (show NumRow w6 w.heap.size v o from ownsRow_low hr HBL.out.size)
      have HB6 := Lib.hid (HBL.out.trans (hb.mono HBL.out.size))
      have HO6 := Lib.hid ho
      clear hr hb ho HTO x0 x1
      go_wp2_with fail
      go_ret2
      exact HYES.out _ _ _ HTT.out HO6.out HB6.out HR6.out
end Go.Proofs.Ytochgmbeomfkpaa
/- a topological order fits, whatever the inputs -/
namespace Go.Proofs.Ytochgmbeomfkpaa
open Go.RowKit

section
variable {N : Int → Bool} {ch : Int → List Int} {out res : List Int}
theorem Topo.pre (h : Topo N ch out res) : ∃ r, res = out ++ r := by
  induction h with
  | stop _ => exact ⟨[], by simp⟩
  | @step out k res _ _ _ ih => obtain ⟨r, hr⟩ := ih; exact ⟨k :: r, by rw [hr]; simp⟩
/-- Each key stands behind all that it hangs on, and once. -/
theorem Topo.ahead (h : Topo N ch out res) : ∀ (i : Nat) (hi : i < res.length), out.length ≤ i → frT N ch (res.take i) res[i] = true := by
  induction h with
  | stop _ => intro i hi ho; omega
  | @step out k res hk _ h2 ih =>
    intro i hi ho
    rcases Nat.lt_or_ge out.length i with h3 | h3
    · exact ih i hi (by simp; omega)
    · obtain rfl : i = out.length := by omega
      obtain ⟨r, hr⟩ := h2.pre
      subst hr
      have h1 : ((out ++ [k] ++ r).take out.length) = out := by simp
      have h4 : (out ++ [k] ++ r)[out.length] = k := by simp
      rw [h1, h4]
      exact hk
end
/-- What a key uses, whatever the values, is what it hangs on. -/
theorem uses_chL {s : Sh} (hok : s.ok = true) (vs : Int → Int) {k u : Int} (hm : s.mdI k = true) (hu : u ∈ (usesL ((s.tkI k).kys vs)).filter s.mdI) : u ∈ chL s k := by
  rw [List.mem_filter, usesL_mem] at hu
  have hf := tkI_fit hok k
  have h1 := kys_may vs (s.tkI k) hf u hu.1
  have h2 := (T.kys_bd vs (s.tkI k) hf).1 u hu.1
  obtain ⟨kn, rfl⟩ : ∃ kn : Nat, k = kn := ⟨k.toNat, by have := mdI_bd hm; omega⟩
  rw [← chL_may, List.mem_filter]
  refine ⟨mayI_mem.2 ⟨h2.1, by omega, ?_⟩, hu.2⟩
  have : s.tkI (kn : Int) = s.tk kn := by unfold Sh.tkI; rw [Int.toNat_natCast]
  rw [← this]
  exact h1
theorem tp_fits {s : Sh} {ks l : List Int} (ht : tpB s ks = true) (hl : l.length = s.m.length) (hv : vok l = true) : ofB s l (tpL s ks) = true := by
  have h1 : (safeB s && (hkB s ks && s.ok)) = true := ht
  rw [Bool.and_eq_true, Bool.and_eq_true] at h1
  unfold ofB
  rw [safe_all h1.1 hl hv, Bool.true_and]
  by_cases hx : tpB s ks = true ∧ ∃ r, Topo (nT s ks) (chL s) [] r
  · have he : tpL s ks = hx.2.choose := by unfold tpL; rw [dif_pos hx]
    have hT := hx.2.choose_spec
    rw [← he] at hT
    unfold ofTo
    rw [List.all_eq_true]
    intro i hi
    have hi2 : i < (tpL s ks).length := List.mem_range.1 hi
    have h2 := frT_iff.1 (hT.ahead i hi2 (Nat.zero_le _))
    rw [List.getD_eq_getElem?_getD, List.getElem?_eq_getElem hi2, Option.getD_some]
    have hm := (nT_iff.1 h2.1).made
    unfold ofOne
    rw [hm, Bool.true_and, Bool.and_eq_true, List.all_eq_true]
    exact ⟨by rw [decide_eq_false h2.2.1]; rfl, fun u hu => decide_eq_true (h2.2.2 u (uses_chL h1.2.2 _ hm hu))⟩
  · have he : tpL s ks = [] := by unfold tpL; rw [dif_neg hx]
    rw [he]
    rfl
end Go.Proofs.Ytochgmbeomfkpaa
