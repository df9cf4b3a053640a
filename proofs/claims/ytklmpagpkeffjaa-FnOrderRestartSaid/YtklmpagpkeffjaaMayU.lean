/- impl.TaskMay -/
import Derived.Test.YtklmpagpkeffjaaMayT
import Derived.Shelf.Abstract
namespace Go.Proofs.Ytklmpagpkeffjaa
open Go.RowKit

theorem run_idx (cs : Array Value) (k : Nat) (hk : k < 10) (x : Bool) (hx : cs[k]? = some (.bool x)) (w : World) : (Instr.index 141 (.agg cs) (.int .i64 k)).run Try.prog w = .ok (.bool x) w := by
  have h1 : (0 : Int) ≤ (k : Int) ∧ (k : Int) < 10 := by omega
  have h2 : (Go.sizeOf 4).run Try.prog w = .ok 1 w := by kernel_rfl
  simp [Instr.index, run_underlying Try.underlying141, asIntOf, h1, h2, part, hx, go_sem]
  intro h
  omega

set_option maxRecDepth 100000 in
set_option maxHeartbeats 2000000 in
theorem implMay_any (t : T) (w : World) (S : Nat → Prop) (a : Option Addr) (c : Nat) (hat : AtS w S t.ps a c) :
    Calls Try.prog 100 #[.agg #[.int .i64 t.k, .int .i64 t.n, .slice a t.ps.length c]] w (MyPost t w) := by
  have K0 := Lib.hid (Kp.start (ty := 42) hat.lim)
  clear hat
  cases hv : t.ok
  · have hx : MyPost t w = fun e w' => Below w.heap.size w w' ∧ ∃ v, e = .returned v ∧ NumRow w' w.heap.size v [] := by unfold MyPost mayO; rw [hv, if_neg (by decide)]
    have HX := Lib.hid hx
    have HV := Lib.hid hv
    clear hv hx
    go_enter Try.func100, Try.ntmps100
    go_wp2_with fail
    refine (implOk_any t _ _ a c K0.out.2).mono ?_
    rintro e w1 ⟨rfl, hb⟩
    rw [HV.out]
    have K1 := Lib.hid (K0.out.step hb)
    clear hb K0
    go_wp2_with fail
    go_ret
    rw [HX.out]
    exact ⟨K1.out.done, _, rfl, World.ownsRow_nil _ _ _ _⟩
  · have hfn : t.fit = true ∧ t.nodes ≤ 15 := by simpa [T.ok] using hv
    have hx : MyPost t w = fun e w' => Below w.heap.size w w' ∧ ∃ v, e = .returned v ∧ NumRow w' w.heap.size v (mayI t 10) := by unfold MyPost mayO; rw [hv, if_pos rfl]
    have HX := Lib.hid hx
    have HFN := Lib.hid hfn
    have HV := Lib.hid hv
    obtain ⟨iN, ni, nz0, nz1, nz2⟩ := info_parts infoInt
    have HIN := Lib.hid (And.intro ni (And.intro nz0 (And.intro nz1 nz2)))
    have hml : maxLen = 9223372036854775807 := rfl
    have HML := Lib.hid hml
    clear hv hx hfn ni nz0 nz1 nz2 hml
    go_enter Try.func100, Try.ntmps100
    go_wp2_with fail
    refine (implOk_any t _ _ a c K0.out.2).mono ?_
    rintro e w1 ⟨rfl, hb⟩
    rw [HV.out]
    have K1 := Lib.hid (K0.out.step hb)
    have hs1 := hb.size
    simp only [World.size_alloc] at hs1
    obtain ⟨x0, x1, x2⟩ := K1.out.box
    have hlt : w.heap.size < w1.heap.size := by omega
    clear hb K0
    go_wp2_with fail
    clear x0 x1 x2
    have HT1 := Lib.hid (show TruAt (w1.alloc (.cells #[.bool false, .bool false, .bool false, .bool false, .bool false, .bool false, .bool false, .bool false, .bool false, .bool false] 141)) w1.heap.size 141 (fun _ => false) from
      ⟨_, heap_alloc_new w1 _, rfl, fun i hi => by
        rcases (show i = 0 ∨ i = 1 ∨ i = 2 ∨ i = 3 ∨ i = 4 ∨ i = 5 ∨ i = 6 ∨ i = 7 ∨ i = 8 ∨ i = 9 by omega) with rfl | rfl | rfl | rfl | rfl | rfl | rfl | rfl | rfl | rfl <;> rfl⟩)
    have K2 := Lib.hid (K1.out.alloc (.cells #[.bool false, .bool false, .bool false, .bool false, .bool false, .bool false, .bool false, .bool false, .bool false, .bool false] 141))
    refine (mark_all 141 t _ _ a c w1.heap.size _ K2.out.2 (fun b hb => by omega) HFN.out.1 HT1.out).mono ?_
    rintro e w2 ⟨rfl, ⟨cs, hbk, hcs, hcc⟩, ho⟩
    have hs2 := ho.size
    simp only [World.size_alloc] at hs2
    have HB2 := Lib.hid (show Below w.heap.size w w2 from K2.out.done.trans ⟨ho.os, ho.tape, ho.output, ho.size, fun k hk => ho.block k (by simp; omega) (by intro e; injection e; omega)⟩)
    have HCC := Lib.hid (show ∀ i, i < 10 → cs[i]? = some (.bool (t.may (i : Int))) from fun i hi => by rw [hcc i hi]; simp)
    have HBK := Lib.hid hbk
    have hisz : (Try.prog.info? 141).map (·.size) = some cs.size := by rw [hcs]; kernel_rfl
    have HIS := Lib.hid hisz
    clear hbk hcs hcc ho hisz K1 K2 HT1
    go_wp2_with (refine wpList_load_row rfl 141 (.tmp 3) rfl w1.heap.size rfl 141 cs (0, 0) _ HBK.out Try.underlying141 rfl HIS.out ?_)
    go_loopw [4, 13] (fun v i wr => ∃ k : Nat, k ≤ 10 ∧ i = .int .i64 k ∧ NumRow wr w.heap.size v (mayI t k) ∧ Below w2.heap.size w2 wr ∧ (∀ b, v.ownBlock = some b → w2.heap.size ≤ b)) (fun _ i _ => 10 - (intOf i).toNat)
    case atStart => exact ⟨0, by omega, rfl, World.ownsRow_nil _ _ _ _, Below.refl _ _, by simp [Value.ownBlock]⟩
    case round =>
      obtain ⟨k, hk, rfl, hn, hb, hne⟩ := hrel
      have HN := Lib.hid hn
      have HB := Lib.hid hb
      have HNE := Lib.hid hne
      have hwr := hb.size
      clear hn hb hne
      by_cases hlt : k < 10
      · have hidx := run_idx cs k hlt (t.may (k : Int)) (HCC.out k hlt)
        cases hmay : t.may (k : Int)
        · rw [hmay] at hidx
          have HMN := Lib.hid (mayI_no hmay)
          clear hmay
          go_wp2_with fail
          go_roundw
          case rel => exact ⟨k + 1, by omega, by go_num, by rw [HMN.out]; exact HN.out, HB.out, HNE.out⟩
          case measure => simp [intOf]; omega
        · rw [hmay] at hidx
          have HMN := Lib.hid (mayI_yes hmay)
          have hml := mayI_len t k
          obtain ⟨acc, hacc⟩ : ∃ acc, acc = mayI t k := ⟨_, rfl⟩
          rw [← hacc] at HN HMN hml
          clear hmay hacc
          go_wp2_with (at_builtin; refine wpList_append_row _ rfl (.tmp 18) (.tmp 20) 30 rfl w.heap.size 3 iN (.int .i64 0) 1 8 Try.underlying30 HIN.out.1 HIN.out.2.1 HIN.out.2.2.1 HIN.out.2.2.2 rfl (by decide) _ acc.length (acc.map (Value.int .i64)) rfl (World.ownsRow.alloc HN.out _) ⟨wr.heap.size, 0, none⟩ 1 1 [.int .i64 k] rfl rfl ?d1 ?d2 (by decide) ?d3 ?d4 ?d5 ?_)
          case d1 => exact news1 _ _ _
          case d2 => simp [Value.oneCell']
          case d3 => rw [HML.out]; omega
          case d4 => omega
          case d5 => simp; omega
          intro v2 w3 hown hgr hnew
          have hN2 : NumRow w3 w.heap.size v2 (acc ++ [(k : Int)]) := by
            unfold NumRow
            rw [List.map_append, show (acc ++ [(k : Int)]).length = acc.length + 1 by simp]
            exact hown
          have hB2 : Below w2.heap.size w2 w3 := (HB.out.alloc hwr _).trans (below_grown hgr (by simp; omega) HNE.out)
          have hG2 : ∀ b, v2.ownBlock = some b → w2.heap.size ≤ b := fun b hb => by
            rcases hnew b hb with h | h
            · exact HNE.out b h
            · omega
          have H2 := Lib.hid (And.intro hN2 (And.intro hB2 hG2))
          clear hown hgr hnew hN2 hB2 hG2 hidx
          go_wp2_with fail
          go_roundw
          case rel => exact ⟨k + 1, by omega, by go_num, by rw [HMN.out]; exact H2.out.1, H2.out.2.1, H2.out.2.2⟩
          case measure => simp [intOf]; omega
      · obtain rfl : k = 10 := by omega
        go_wp2_with fail
        go_ret
        rw [HX.out]
        exact ⟨HB2.out.trans (HB.out.mono (by omega)), _, rfl, HN.out⟩
end Go.Proofs.Ytklmpagpkeffjaa
