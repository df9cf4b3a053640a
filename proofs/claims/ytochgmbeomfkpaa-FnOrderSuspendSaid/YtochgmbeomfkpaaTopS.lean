/- spec.OrderTopo -/
import Derived.Test.YtochgmbeomfkpaaBelS
import Derived.Test.YtochgmbeomfkpaaFreS
import Derived.Test.YtochgmbeomfkpaaFi1
import Derived.Test.YtochgmbeomfkpaaOrdE
namespace Go.Proofs.Ytochgmbeomfkpaa
open Go.RowKit

/-- The made keys on the ways from ks. -/
noncomputable def nT (s : Sh) (ks : List Int) (k : Int) : Bool := @decide (Rch s.mdI (chL s) ks k) (Classical.propDecidable _)
theorem nT_iff {s : Sh} {ks : List Int} {k : Int} : nT s ks k = true ↔ Rch s.mdI (chL s) ks k := by unfold nT; exact @decide_eq_true_iff _ (Classical.propDecidable _)
theorem nT_bd {s : Sh} {ks : List Int} {k : Int} (h : nT s ks k = true) : 0 ≤ k ∧ k < s.m.length := mdI_bd (nT_iff.1 h).made
/-- Whether there is a topological order, and it. -/
noncomputable def tpB (s : Sh) (ks : List Int) : Bool := safeB s && kyB s ks
open Classical in
noncomputable def tpL (s : Sh) (ks : List Int) : List Int := if h : tpB s ks = true ∧ ∃ r, Topo (nT s ks) (chL s) [] r then h.2.choose else []
theorem OrP.tp_no {s : Sh} {ks : List Int} {w w' : World} {v : Value} (h : tpB s ks = false) (hb : Below w.heap.size w w') (hv : NumRow w' w.heap.size v []) : OrP (tpB s ks) (tpL s ks) w (.returned (.tuple #[v, .bool false])) w' := by
  have : tpL s ks = [] := by unfold tpL; rw [dif_neg (fun h2 => by rw [h2.1] at h; cases h)]
  rw [h, this]
  exact ⟨hb, v, rfl, hv⟩
theorem OrP.tp_yes {s : Sh} {ks : List Int} {w w' : World} {v : Value} {o : List Int} (h : tpB s ks = true) (ho : Topo (nT s ks) (chL s) [] o) (hb : Below w.heap.size w w') (hv : NumRow w' w.heap.size v o) : OrP (tpB s ks) (tpL s ks) w (.returned (.tuple #[v, .bool true])) w' := by
  have he : tpL s ks = o := by
    have hx : tpB s ks = true ∧ ∃ r, Topo (nT s ks) (chL s) [] r := ⟨h, o, ho⟩
    unfold tpL
    rw [dif_pos hx]
    exact Topo.det hx.2.choose_spec ho
  rw [h, he]
  exact ⟨hb, v, rfl, hv⟩
def lnV : Value → Nat
  | .slice _ n _ => n
  | _ => 0
def bV : Value → Nat
  | .bool true => 1
  | _ => 0
/-- Where the model's outer loop stands. -/
structure TpO (s : Sh) (ks out : List Int) : Prop where
  st : TopS (nT s ks) (chL s) out
  go : ∀ r, Topo (nT s ks) (chL s) out r → Topo (nT s ks) (chL s) [] r
theorem TpO.start {s : Sh} {ks : List Int} : TpO s ks [] := ⟨TopS.start, fun _ h => h⟩
theorem TpO.len {s : Sh} {ks out : List Int} (h : TpO s ks out) : out.length ≤ s.m.length := h.st.len (fun _ hk => nT_bd hk)
theorem TpO.next {s : Sh} {ks out : List Int} {k : Nat} (h : TpO s ks out) (hb : ∀ i : Nat, i < k → frT (nT s ks) (chL s) out i = false) (hk : frT (nT s ks) (chL s) out k = true) : TpO s ks (out ++ [(k : Int)]) :=
  ⟨h.st.next hk, fun r hr => h.go r (topo_scan (fun _ hj => (nT_bd hj).1) hb hk hr)⟩
theorem TpO.done {s : Sh} {ks out : List Int} (h : TpO s ks out) (hb : ∀ i : Nat, i < s.m.length → frT (nT s ks) (chL s) out i = false) : Topo (nT s ks) (chL s) [] out := h.go out (topo_end (fun _ hj => nT_bd hj) hb)

set_option maxRecDepth 100000 in
set_option maxHeartbeats 1500000 in
theorem specTopo_any (s : Sh) (ks : List Int) (w : World) (S0 S2 : Nat → Prop) (a : Option Addr) (c : Nat) (a' : Option Addr) (c' : Nat) (ak : Option Addr) (ck : Nat) (h0 : ShAt w S0 s a c a' c') (hn : nodesL s.t ≤ 1048576) (hk0 : IntsAt w S2 ks ak ck) (hkl : ks.length ≤ 1048576) :
    Calls Try.prog 7 #[.agg #[.slice a s.m.length c, .slice a' s.t.length c'], .slice ak ks.length ck] w (OrP (tpB s ks) (tpL s ks) w) := by
  obtain ⟨S, hSd⟩ : ∃ S : Nat → Prop, S = fun b => S0 b ∧ b < w.heap.size := ⟨_, rfl⟩
  have hSl : ∀ b, S b → b < w.heap.size := by rw [hSd]; exact fun b h => h.2
  have h : ShAt w S s a c a' c' := by rw [hSd]; exact h0.lim
  have HSL := Lib.hid hSl
  have K0 := Lib.hid ((Ks.start (ty := 32) h).alloc (.cells #[] 3))
  have Q0 := Lib.hid ((hk0.lim.alloc (.cells #[.slice a s.m.length c, .slice a' s.t.length c'] 32)).alloc (.cells #[] 3))
  have ho0 := rowN_new (w.alloc (.cells #[.slice a s.m.length c, .slice a' s.t.length c'] 32))
  simp only [World.size_alloc] at ho0
  have HO0 := Lib.hid ho0
  have HNN := Lib.hid hn
  obtain ⟨KL, hKL⟩ : ∃ n, n = ks.length := ⟨_, rfl⟩
  have HKL := Lib.hid hKL
  rw [← hKL] at hkl ⊢
  obtain ⟨x0, x1⟩ := K0.out.box
  clear h h0 hSd hSl hn hk0 ho0 hKL
  cases hsf : safeB s
  · have HNO := Lib.hid (show tpB s ks = false by unfold tpB; rw [hsf]; rfl)
    have HSF := Lib.hid hsf
    clear hsf
    go_enter Try.func7, Try.ntmps7
    go_wp2_with fail
    refine (specSafe_any s _ _ a c a' c' K0.out.2 HNN.out).mono ?_
    rintro e w1 ⟨rfl, hb⟩
    rw [HSF.out]
    have K1 := Lib.hid (K0.out.step hb)
    have O1 := Lib.hid (ElRow.below (f := Value.int .i64) (e := 3) HO0.out hb)
    clear hb x0 x1 K0 HO0
    go_wp2_with fail
    go_ret2
    exact OrP.tp_no HNO.out K1.out.done (ownsRow_low O1.out (by omega))
  cases hky : kyB s ks
  · have HNO := Lib.hid (show tpB s ks = false by unfold tpB; rw [hsf, hky]; rfl)
    have HSF := Lib.hid (And.intro hsf hky)
    clear hsf hky
    go_enter Try.func7, Try.ntmps7
    go_wp2_with fail
    refine (specSafe_any s _ _ a c a' c' K0.out.2 HNN.out).mono ?_
    rintro e w1 ⟨rfl, hb⟩
    rw [HSF.out.1]
    have K1 := Lib.hid (K0.out.step hb)
    have Q1 := Lib.hid (Q0.out.below hb)
    have O1 := Lib.hid (ElRow.below (f := Value.int .i64) (e := 3) HO0.out hb)
    clear hb x0 x1 K0 HO0 Q0
    obtain ⟨x0, x1⟩ := K1.out.box
    go_wp2_with fail
    have hc := l4Keys_any s ks w1 _ _ a c a' c' ak ck K1.out.2 HNN.out Q1.out
    rw [← HKL.out] at hc
    refine hc.mono ?_
    clear hc
    rintro e w2 ⟨rfl, hb⟩
    rw [HSF.out.2]
    have K2 := Lib.hid (K1.out.step hb)
    have O2 := Lib.hid (ElRow.below (f := Value.int .i64) (e := 3) O1.out hb)
    clear hb x0 x1 K1 O1 Q1
    go_wp2_with fail
    go_ret2
    exact OrP.tp_no HNO.out K2.out.done (ownsRow_low O2.out (by omega))
  have hhk : hkB s ks = true := by unfold kyB at hky; rw [Bool.and_eq_true] at hky; exact hky.1
  have hok : s.ok = true := by unfold kyB at hky; rw [Bool.and_eq_true] at hky; exact hky.2
  have HYES := Lib.hid (show tpB s ks = true by unfold tpB; rw [hsf, hky]; rfl)
  have HSF := Lib.hid (And.intro hsf hky)
  have HOK := Lib.hid (And.intro hok hhk)
  have hm10 : s.m.length ≤ 10 := (Sh.ok_iff.1 hok).1
  obtain ⟨iN, ni, nz0, nz1, nz2⟩ := info_parts infoInt
  have HIN := Lib.hid (And.intro ni (And.intro nz0 (And.intro nz1 nz2)))
  have hml : maxLen = 9223372036854775807 := rfl
  have HML := Lib.hid hml
  clear hsf hky hhk hok ni nz0 nz1 nz2 hml
  go_enter Try.func7, Try.ntmps7
  go_wp2_with fail
  refine (specSafe_any s _ _ a c a' c' K0.out.2 HNN.out).mono ?_
  rintro e w1 ⟨rfl, hb⟩
  rw [HSF.out.1]
  have K1 := Lib.hid (K0.out.step hb)
  have Q1 := Lib.hid (Q0.out.below hb)
  have O1 := Lib.hid (ElRow.below (f := Value.int .i64) (e := 3) HO0.out hb)
  clear hb x0 x1 K0 HO0 Q0
  obtain ⟨x0, x1⟩ := K1.out.box
  go_wp2_with fail
  have hc := l4Keys_any s ks w1 _ _ a c a' c' ak ck K1.out.2 HNN.out Q1.out
  rw [← HKL.out] at hc
  refine hc.mono ?_
  clear hc
  rintro e w2 ⟨rfl, hb⟩
  rw [HSF.out.2]
  have K2 := Lib.hid (K1.out.step hb)
  have Q2 := Lib.hid (Q1.out.below hb)
  have O2 := Lib.hid (ElRow.below (f := Value.int .i64) (e := 3) O1.out hb)
  have hlt2 : w.heap.size + 1 < w2.heap.size := (World.ownsRow.lt O2.out _ rfl).2
  clear hb x0 x1 K1 O1 Q1
  obtain ⟨x0, x1⟩ := K2.out.box
  go_wp2_with fail
  have hc := l4Below_any s ks w2 _ _ a c a' c' ak ck K2.out.2 HNN.out HOK.out.1 Q2.out HOK.out.2 (by rw [← HKL.out]; exact hkl)
  rw [← HKL.out] at hc
  refine hc.mono ?_
  clear hc
  rintro e w3 ⟨g, D, rfl, hT, hg, hD, hb⟩
  have K3 := Lib.hid (K2.out.step hb)
  have O3 := Lib.hid (ElRow.below (f := Value.int .i64) (e := 3) O2.out hb)
  have T3 := Lib.hid hT
  have HD := Lib.hid hD
  have hg3 : g < w3.heap.size := hT.lt
  have hgl : w.heap.size + 1 + 1 ≤ g := by omega
  have HGL := Lib.hid (And.intro hgl hg3)
  clear hb hT hg hD x0 x1 K2 Q2 O2
  go_wp2_with fail
  go_loopw [6, 8, 9] (fun v ag k9 wr => ∃ (out : List Int) (bb : Bool), ag = .bool bb ∧ NumRow wr (w.heap.size + 1) v out ∧ TpO s ks out ∧ (bb = false → ∀ i : Nat, i < s.m.length → frT (nT s ks) (chL s) out i = false) ∧ TruN wr g s.m.length D ∧ Ks S s a c a' c' 32 w wr ∧ (∀ b, v.ownBlock = some b → b ≠ g) ∧ w3.heap.size ≤ wr.heap.size) (fun v ag _ _ => 2 * (10 - lnV v) + bV ag)
  case atStart => exact ⟨[], true, rfl, O3.out, TpO.start, (fun h => by cases h), T3.out, K3.out, (fun b hb => by simp [Value.ownBlock] at hb; omega), Nat.le_refl _⟩
  case round =>
    obtain ⟨out, bb, rfl, hrow, hto, hbb, htr, hks, how, hsz⟩ := hrel
    have HROW := Lib.hid hrow
    have HTO := Lib.hid hto
    have HBB := Lib.hid hbb
    have HTR := Lib.hid htr
    have HKS := Lib.hid hks
    have HOW := Lib.hid how
    obtain ⟨av, cv, rfl, _⟩ := ElRow.at (f := Value.int .i64) (e := 3) hrow
    have hol := hto.len
    obtain ⟨x0, x1⟩ := hks.box
    clear hrow hto hbb htr hks how K3 O3 T3
    cases bb
    · go_wp2_with fail
      go_ret2
      exact OrP.tp_yes HYES.out (HTO.out.done (HBB.out (by first | rfl | trivial))) HKS.out.done (ownsRow_low HROW.out (by omega))
    · obtain ⟨wo, hwo⟩ : ∃ x, x = wr := ⟨_, rfl⟩
      subst hwo
      go_wp2_with fail
      go_loopw [6, 8, 9] (fun v ag k9 wr => ∃ (o2 : List Int) (bb : Bool) (k : Nat), k9 = .int .i64 k ∧ ag = .bool bb ∧ k ≤ s.m.length ∧ NumRow wr (w.heap.size + 1) v o2 ∧ TpO s ks o2 ∧ (bb = false → o2.length = out.length ∧ ∀ i : Nat, i < k → frT (nT s ks) (chL s) o2 i = false) ∧ (bb = true → o2.length = out.length + 1) ∧ TruN wr g s.m.length D ∧ Ks S s a c a' c' 32 w wr ∧ (∀ b, v.ownBlock = some b → b ≠ g) ∧ w3.heap.size ≤ wr.heap.size) (fun _ _ k9 _ => s.m.length - (intOf k9).toNat)
      case atStart => exact ⟨out, false, 0, rfl, rfl, by omega, HROW.out, HTO.out, fun _ => ⟨rfl, fun i hi => by omega⟩, (fun h => by cases h), HTR.out, HKS.out, HOW.out, hsz⟩
      case round =>
        obtain ⟨o2, bb, k, rfl, rfl, hk, hrow, hto, hb1, hb2, htr, hks, how, hsz⟩ := hrel
        have HROW2 := Lib.hid hrow
        have HTO2 := Lib.hid hto
        have HB1 := Lib.hid hb1
        have HB2 := Lib.hid hb2
        have HTR2 := Lib.hid htr
        have HKS2 := Lib.hid hks
        have HOW2 := Lib.hid how
        obtain ⟨av2, cv2, rfl, hat2⟩ := NumRow.at hrow (fun x hx => by have := nT_bd (hto.st.inn x hx); unfold i64ok; omega)
        have HAT2 := Lib.hid hat2
        have hol2 := hto.len
        have HOL2 := Lib.hid hol2
        clear x0 x1
        obtain ⟨x0, x1⟩ := hks.box
        clear hrow hto hb1 hb2 htr hks how hat2 HROW HTO HBB HTR HKS HOW
        cases bb
        · have hle := (HB1.out rfl).1
          by_cases hkn : k < s.m.length
          · obtain ⟨hcd, _⟩ := HTR2.out.cell hkn
            have HDK := Lib.hid (HD.out k hkn)
            have HKN := Lib.hid hkn
            obtain ⟨dv, hdv⟩ : ∃ b, b = D k := ⟨_, rfl⟩
            rw [← hdv] at hcd
            have HDV := Lib.hid hdv
            have d1 : decide ((k : Int) < (s.m.length : Int)) = true := decide_eq_true (by omega)
            have hfrs := (HB1.out (by first | rfl | trivial)).2
            have HNX := Lib.hid (show frT (nT s ks) (chL s) o2 (k : Int) = false → ∀ i : Nat, i < k + 1 → frT (nT s ks) (chL s) o2 (i : Int) = false from fun h0 i hi => by
              by_cases hik : i = k
              · rw [hik]; exact h0
              · exact hfrs i (by omega))
            have HFR := Lib.hid hfrs
            have HLE := Lib.hid hle
            clear hdv hle hfrs
            cases dv
            · have HFK := Lib.hid (show frT (nT s ks) (chL s) o2 (k : Int) = false by
                cases hx : frT (nT s ks) (chL s) o2 (k : Int)
                · rfl
                · have h1 := HDK.out.2 (nT_iff.1 (frT_iff.1 hx).1)
                  rw [← HDV.out] at h1
                  cases h1)
              go_wp2_with fail
              go_roundw
              case rel => exact ⟨o2, false, k + 1, by go_num, rfl, by omega, HROW2.out, HTO2.out, fun _ => ⟨HLE.out, HNX.out HFK.out⟩, (fun h => by cases h), HTR2.out, HKS2.out, HOW2.out, hsz⟩
              case measure => simp [intOf]; omega
            · have HNK := Lib.hid (show nT s ks (k : Int) = true from nT_iff.2 (HDK.out.1 HDV.out.symm))
              obtain ⟨p, hp⟩ : ∃ p, p = decide ((k : Int) ∈ o2) := ⟨_, rfl⟩
              have HP := Lib.hid hp
              have hcc := has_any wr _ o2 av2 cv2 (k : Int) HAT2.out
              rw [← hp] at hcc
              have HCC := Lib.hid hcc
              clear hp hcc
              go_wp2_with fail
              refine HCC.out.mono ?_
              rintro e w' ⟨rfl, rfl⟩
              cases p
              · have HNO := Lib.hid (show (k : Int) ∉ o2 from of_decide_eq_false HP.out.symm)
                have HL3 := Lib.hid (l3May_any s k wr S a c a' c' HKS2.out.2 HNN.out HOK.out.1 HKN.out)
                go_wp2_with fail
                refine HL3.out.mono ?_
                rintro e w8 ⟨v, rfl, hr8, hb8⟩
                obtain ⟨L, hL⟩ : ∃ L, L = l3L s k := ⟨_, rfl⟩
                rw [← hL] at hr8
                have hLb : ∀ x ∈ L, 0 ≤ x ∧ x < s.m.length := by rw [hL]; exact fun x hx => (l3_mem hx).2
                obtain ⟨a8, c8, rfl, hia⟩ := hr8.at (fun x hx => by have := hLb x hx; unfold i64ok; omega)
                have K8 := Lib.hid (HKS2.out.step hb8)
                have T8 := Lib.hid (HTR2.out.below hb8)
                have R8 := Lib.hid (ElRow.below (f := Value.int .i64) (e := 3) HROW2.out hb8)
                have HL := Lib.hid hL
                have hs8 := hb8.size
                obtain ⟨rr, hrr⟩ : ∃ r, r = L.all (fun c => o2.contains c) := ⟨_, rfl⟩
                have hcf := l4Free_any w8 _ _ o2 L av2 cv2 a8 c8 (HAT2.out.below hb8) hia
                rw [← hrr] at hcf
                have HCF := Lib.hid hcf
                have HRR := Lib.hid hrr
                clear hr8 hb8 hia hLb hL HL3 hcf hrr x0 x1 hcd HTR2 HKS2 HROW2 HAT2
                go_wp2_with fail
                refine HCF.out.mono ?_
                rintro e w' ⟨rfl, rfl⟩
                cases rr
                · have HFK := Lib.hid (show frT (nT s ks) (chL s) o2 (k : Int) = false by
                    unfold frT
                    rw [chL_nat, ← HL.out, ← HRR.out, Bool.and_false, Bool.and_false])
                  go_wp2_with fail
                  go_roundw
                  case rel => exact ⟨o2, false, k + 1, by go_num, rfl, by omega, R8.out, HTO2.out, fun _ => ⟨HLE.out, HNX.out HFK.out⟩, (fun h => by cases h), T8.out, K8.out, HOW2.out, by omega⟩
                  case measure => simp [intOf]; omega
                · have HFK := Lib.hid (show frT (nT s ks) (chL s) o2 (k : Int) = true by
                    unfold frT
                    rw [chL_nat, ← HL.out, ← HRR.out, HNK.out]
                    have := HNO.out
                    simp [this])
                  go_wp2_with (at_builtin; refine wpList_append_row _ rfl (.tmp 52) (.tmp 54) 26 rfl (w.heap.size + 1) 3 iN (.int .i64 0) 1 8 Try.underlying26 HIN.out.1 HIN.out.2.1 HIN.out.2.2.1 HIN.out.2.2.2 rfl (by decide) _ o2.length (o2.map (.int .i64)) rfl (World.ownsRow.alloc R8.out _) ⟨w8.heap.size, 0, none⟩ 1 1 [.int .i64 (k : Int)] rfl rfl ?d1 ?d2 (by decide) ?d3 ?d4 ?d5 ?_)
                  case d1 => exact news1 _ _ _
                  case d2 => simp [Value.oneCell']
                  case d3 => rw [HML.out]; omega
                  case d4 => omega
                  case d5 => simp; omega
                  intro v9 w9 hown hgr hnew
                  have R9 := Lib.hid (show NumRow w9 (w.heap.size + 1) v9 (o2 ++ [(k : Int)]) by unfold NumRow; rw [List.length_append, List.map_append]; exact hown)
                  have hge := own_ge R8.out
                  have hs9 := hgr.size
                  simp only [World.size_alloc] at hs9
                  have K9 := Lib.hid ((K8.out.alloc (.cells #[.int .i64 (k : Int)] 3)).fr (D := fun b => (Value.slice av2 o2.length cv2).ownBlock = some b) ⟨hgr.os, hgr.tape, hgr.output, hgr.size, fun b hb hn => hgr.block b hb (fun e => hn e.symm)⟩ (fun b hb => by have := hge b hb; omega) HSL.out)
                  have T9 := Lib.hid (show TruN w9 g s.m.length D by
                    obtain ⟨cs, h1, h2⟩ := T8.out
                    exact ⟨cs, (hgr.block _ (h1.alloc _).lt (fun e => HOW2.out g e.symm rfl)).trans (h1.alloc _), h2⟩)
                  have HW9 := Lib.hid (show ∀ b, v9.ownBlock = some b → b ≠ g from fun b hb => by
                    rcases hnew b hb with h1 | h1
                    · exact HOW2.out b h1
                    · have := HGL.out.2; omega)
                  have HT9 := Lib.hid (HTO2.out.next HFR.out HFK.out)
                  clear hown hgr hnew hge K8 T8 R8
                  obtain ⟨a9, c9, rfl, _⟩ := ElRow.at (f := Value.int .i64) (e := 3) R9.out
                  go_wp2_with fail
                  go_roundw
                  case rel => exact ⟨o2 ++ [(k : Int)], true, k + 1, by go_num, rfl, by omega, R9.out, HT9.out, (fun h => by cases h), fun _ => by rw [List.length_append, HLE.out]; rfl, T9.out, K9.out, HW9.out, by omega⟩
                  case measure => simp [intOf]; omega
              · have HFK := Lib.hid (show frT (nT s ks) (chL s) o2 (k : Int) = false by
                  cases hx : frT (nT s ks) (chL s) o2 (k : Int)
                  · rfl
                  · exact absurd (of_decide_eq_true HP.out.symm) (frT_iff.1 hx).2.1)
                go_wp2_with fail
                go_roundw
                case rel => exact ⟨o2, false, k + 1, by go_num, rfl, by omega, HROW2.out, HTO2.out, fun _ => ⟨HLE.out, HNX.out HFK.out⟩, (fun h => by cases h), HTR2.out, HKS2.out, HOW2.out, hsz⟩
                case measure => simp [intOf]; omega
          · have hkk : k = s.m.length := by omega
            have d1 : decide ((k : Int) < (s.m.length : Int)) = false := decide_eq_false (by omega)
            have HFN := Lib.hid (show ∀ i : Nat, i < s.m.length → frT (nT s ks) (chL s) o2 i = false by rw [← hkk]; exact (HB1.out rfl).2)
            have HLE := Lib.hid hle
            clear hkk hle
            go_wp2_with fail
            go_roundw
            case rel => exact ⟨o2, false, rfl, HROW2.out, HTO2.out, fun _ => HFN.out, HTR2.out, HKS2.out, HOW2.out, hsz⟩
            case measure => have := HLE.out; simp [lnV, bV]; omega
        · have HLE := Lib.hid (HB2.out rfl)
          by_cases hkn : k < s.m.length
          · have d1 : decide ((k : Int) < (s.m.length : Int)) = true := decide_eq_true (by omega)
            go_wp2_with fail
            go_roundw
            case rel => exact ⟨o2, true, rfl, HROW2.out, HTO2.out, (fun h => by cases h), HTR2.out, HKS2.out, HOW2.out, hsz⟩
            case measure => have := HLE.out; have := HOL2.out; simp [lnV, bV]; omega
          · have d1 : decide ((k : Int) < (s.m.length : Int)) = false := decide_eq_false (by omega)
            go_wp2_with fail
            go_roundw
            case rel => exact ⟨o2, true, rfl, HROW2.out, HTO2.out, (fun h => by cases h), HTR2.out, HKS2.out, HOW2.out, hsz⟩
            case measure => have := HLE.out; have := HOL2.out; simp [lnV, bV]; omega
end Go.Proofs.Ytochgmbeomfkpaa
