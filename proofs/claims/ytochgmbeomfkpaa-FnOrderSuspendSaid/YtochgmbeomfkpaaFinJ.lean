/- impl.finish with a step that tells, in a list of its own, what it tries -/
import Derived.Test.YtochgmbeomfkpaaFinish
import Derived.Test.YtochgmbeomfkpaaEnds
namespace Go.Proofs.Ytochgmbeomfkpaa
open Go.RowKit

/-- The box bx holds the slice v, and that the numbers tr, in a block from base on. -/
def OrdAt (w : World) (bx base : Nat) (v : Value) (tr : List Int) : Prop := Blk w bx 26 #[v] ∧ NumRow w base v tr
/-- What turns when steps are taken. -/
def ojB (g n bx : Nat) (v : Value) (b : Nat) : Prop := ndB g n b ∨ b = bx ∨ v.ownBlock = some b

/-- What a step leaves. -/
def StJPost (em : Int → Option Int → List Int) (S : Nat → Prop) (s : Sh) (g n : Nat) (cv : (Int → Bool) → Int → Int) (ch : Int → List Int) (bx base : Nat) (d : Int → Bool) (k : Int) (v : Value) (tr : List Int) (w : World) (e : Ending) (w' : World) : Prop :=
  ∃ v', OrdAt w' bx base v' (tr ++ em k (nxt ch d k)) ∧ (∀ b, v'.ownBlock = some b → v.ownBlock = some b ∨ w.heap.size ≤ b) ∧ Fr (ojB g n bx v) w w' ∧
    ((∃ j, nxt ch d k = some j ∧ e = .returned (ndP g j) ∧ Nds w' S s g n (mpv s g n) (cv d) d) ∨ (nxt ch d k = none ∧ e = .returned (.pointer none) ∧ Nds w' S s g n (mpv s g n) (cv (upd d k)) (upd d k)))

/-- The function f takes a step, and tells of it. -/
structure StepJ (em : Int → Option Int → List Int) (f : FuncId) (caps : Array Value) (S : Nat → Prop) (s : Sh) (g n : Nat) (cv : (Int → Bool) → Int → Int) (ch : Int → List Int) (d0 ok : Int → Bool) (bx base : Nat) : Prop where
  call : ∀ (d : Int → Bool) (w : World) (i : Nat) (v : Value) (tr : List Int), i < n → d i = false → (∀ k, d0 k = true → d k = true) → (∀ k, d k = true → ok k = true) → Nds w S s g n (mpv s g n) (cv d) d → OrdAt w bx base v tr → tr.length ≤ 2000 → base ≤ w.heap.size → Calls Try.prog f (#[.pointer (some ⟨g + i, 0, none⟩)] ++ caps) w (StJPost em S s g n cv ch bx base d i v tr w)
  enters : ∀ args w, (callFunc f args).run Try.prog w = .ok (.enter f args) w
  em1 : ∀ k x, (em k x).length ≤ 1

/-- What finish leaves. -/
def FinJPost (em : Int → Option Int → List Int) (S : Nat → Prop) (s : Sh) (g n : Nat) (cv : (Int → Bool) → Int → Int) (ch : Int → List Int) (ok d : Int → Bool) (bx base : Nat) (v : Value) (tr : List Int) (first : Int) (w : World) (e : Ending) (w' : World) : Prop :=
  ∃ (d' : Int → Bool) (ln : Nat) (a : Option Addr) (c : Nat) (v' : Value) (X : List Int), e = .returned (.slice a ln c) ∧ ln ≤ c ∧ c ≤ 9223372036854775807 ∧ Nds w' S s g n (mpv s g n) (cv d') d' ∧ (∀ k, d k = true → d' k = true) ∧ (∀ k, d' k = true → ok k = true) ∧
    OrdAt w' bx base v' (tr ++ X) ∧ (∀ b, v'.ownBlock = some b → v.ownBlock = some b ∨ w.heap.size ≤ b) ∧ Fr (ojB g n bx v) w w' ∧ ((ln = 0 ∧ d' first = true ∧ Visit em ch d first X d' ∧ X.length + undone d' n * (n + 1) ≤ undone d n * (n + 1)) ∨ (ln ≠ 0 ∧ ok first = false))

theorem finM_zero {d : Int → Bool} {n : Nat} : finM d n 0 = undone d n * (n + 1) + n := by unfold finM; omega
theorem finM_one {d : Int → Bool} {n : Nat} (h : 0 < n) : finM d n 1 + 1 = undone d n * (n + 1) + n := by unfold finM; omega

set_option maxRecDepth 100000 in
set_option maxHeartbeats 6000000 in
theorem finishJ_any {em : Int → Option Int → List Int} {f : FuncId} {caps : Array Value} {S : Nat → Prop} {s : Sh} {g n : Nat} {cv : (Int → Bool) → Int → Int} {ch : Int → List Int} {d0 ok : Int → Bool} {rk : Int → Nat} {bx base : Nat} (hg : Gr n ch d0 ok rk) (hst : StepJ em f caps S s g n cv ch d0 ok bx base) (hn10 : n ≤ 10) (hS : ∀ b, S b → b < g) (hbx : bx < g)
    (hSx : ∀ b, S b → b ≠ bx) (w : World) (d : Int → Bool) (i0 : Nat) (v : Value) (tr : List Int) (hi : i0 < n) (hlo : ∀ k, d0 k = true → d k = true) (hhi : ∀ k, d k = true → ok k = true) (h : Nds w S s g n (mpv s g n) (cv d) d) (ho : OrdAt w bx base v tr) (htr : tr.length + undone d n * (n + 1) ≤ 1000) (hbw : base ≤ w.heap.size) :
    Calls Try.prog 54 #[.pointer (some ⟨g + i0, 0, none⟩), .func (.func f) #[] caps] w (FinJPost em S s g n cv ch ok d bx base v tr i0 w) := by
  obtain ⟨_, _, hgi, _, _, _, _, _, _, z15, _, _⟩ := h.node hi
  obtain ⟨dv, hdv⟩ : ∃ b, b = d i0 := ⟨_, rfl⟩
  rw [← hdv] at z15
  have HN := Lib.hid h
  have HG := Lib.hid hg
  have HST := Lib.hid hst
  have HS := Lib.hid (And.intro hS hSx)
  have HLO := Lib.hid hlo
  have HHI := Lib.hid hhi
  have HO := Lib.hid ho
  have HTR := Lib.hid htr
  have eg := hst.enters
  have hgn : g + n ≤ w.heap.size := by
    obtain ⟨_, _, hl, _⟩ := h.node (i := n - 1) (by omega)
    omega
  have hvl := World.ownsRow.lt ho.2
  have HVL := Lib.hid hvl
  have HDV := Lib.hid hdv
  clear h hg hst hS hSx hlo hhi hdv ho htr hvl
  cases dv
  · clear z15
    obtain ⟨_, _, _, _, _, _, _, _, _, z15, _, _⟩ := HN.out.node hi
    rw [← HDV.out] at z15
    go_enter Try.func54, Try.ntmps54
    go_wp2_with fail
    go_step3
    go_wp2_with fail
    go_step3
    go_wp2_with fail
    have hr0 : ElRow (ndP g) 74 (w.alloc (.cells #[.pointer (some ⟨g + i0, 0, none⟩)] 74)) w.heap.size (.slice (some ⟨w.heap.size, 0, none⟩) 1 1) [(i0 : Int)] :=
      ElRow.of_blk (l := [(i0 : Int)]) (Blk.new w 74 #[.pointer (some ⟨g + i0, 0, none⟩)]) (Nat.le_refl _) (by simp [ndP]) (by simp)
    have ho0 : OrdAt (w.alloc (.cells #[.pointer (some ⟨g + i0, 0, none⟩)] 74)) bx base v (tr ++ []) := by
      rw [List.append_nil]
      exact ⟨HO.out.1.alloc _, ElRow.alloc (f := Value.int .i64) (e := 3) HO.out.2 _⟩
    have hx0 : ∀ b, (Value.slice (some ⟨w.heap.size, 0, none⟩) 1 1).ownBlock = some b → ¬ v.ownBlock = some b := fun b hb h => by
      have := (HVL.out b h).2
      simp [Value.ownBlock] at hb
      omega
    have HR0 := Lib.hid (And.intro hr0 (And.intro (HN.out.alloc (.cells #[.pointer (some ⟨g + i0, 0, none⟩)] 74)) (And.intro (show Fr (ojB g n bx v) w (w.alloc (.cells #[.pointer (some ⟨g + i0, 0, none⟩)] 74)) from Fr.of_below ((Below.refl _ _).alloc (Nat.le_refl _) _)) (And.intro ho0 hx0))))
    have HW0 := Lib.hid (Wt.start (ch := ch) (first := (i0 : Int)) HLO.out HHI.out HDV.out.symm)
    clear hr0 z15 hgi ho0 hx0
    go_loopg [5] (finM d n 1) (fun gk wv wr => ∃ (d' : Int → Bool) (W : List Int) (v1 : Value) (X : List Int), gk = finM d' n W.length ∧ Wt ch d0 ok d' i0 W ∧ (∀ k, d k = true → d' k = true) ∧ ElRow (ndP g) 74 wr w.heap.size wv W ∧ Nds wr S s g n (mpv s g n) (cv d') d' ∧ Fr (ojB g n bx v) w wr ∧
      OrdAt wr bx base v1 (tr ++ X) ∧ (∀ b, v1.ownBlock = some b → v.ownBlock = some b ∨ w.heap.size ≤ b) ∧ (∀ b, wv.ownBlock = some b → ¬ v1.ownBlock = some b) ∧ Sim em ch d i0 X d' W ∧ X.length + gk ≤ finM d n 1)
    case atStart => exact ⟨d, [(i0 : Int)], v, [], rfl, HW0.out, fun _ h => h, HR0.out.1, HR0.out.2.1, HR0.out.2.2.1, HR0.out.2.2.2.1, fun _ h => .inl h, HR0.out.2.2.2.2, Sim.start, by simp⟩
    case round =>
      obtain ⟨d', W, v1, X, hgk, hwt, hdd, hrow, hnd, hfr, hord, hown1, hsep, hsim, hlen⟩ := hrel
      have HWT := Lib.hid hwt
      have HDD := Lib.hid hdd
      have HROW := Lib.hid hrow
      have HND := Lib.hid hnd
      have HFR := Lib.hid hfr
      have HGK := Lib.hid hgk
      have HJ := Lib.hid (And.intro hord (And.intro hown1 (And.intro hsep (And.intro hsim hlen))))
      clear HR0 HW0 hwt hdd hnd hgk hord hown1 hsep hsim hlen
      have hwsz := hfr.size
      clear hfr
      obtain ⟨ga, gc, rfl, _⟩ := ElRow.at hrow
      by_cases h0 : W.length = 0
      · obtain rfl : W = [] := List.length_eq_zero_iff.1 h0
        have hgc : 0 ≤ gc ∧ gc ≤ 9223372036854775807 := by
          have := ElRow.at hrow
          obtain ⟨_, _, h1, h2⟩ := this
          injection h1 with h1 h3 h4
          subst h4
          exact ⟨Nat.zero_le _, h2.2.1⟩
        clear h0 hrow
        go_wp2_with fail
        rw [Exit.noGoto_ret]
        go_ret
        refine ⟨d', 0, _, _, v1, X, rfl, hgc.1, hgc.2, HND.out, HDD.out, HWT.out.hi, HJ.out.1, HJ.out.2.1, HFR.out, .inl ⟨rfl, HWT.out.nil rfl, HJ.out.2.2.2.1.nil, ?_⟩⟩
        have h1 := HJ.out.2.2.2.2
        rw [HGK.out, List.length_nil, finM_zero] at h1
        have h2 := finM_one (d := d) (n := n) (by omega)
        omega
      · obtain ⟨m, hm⟩ : ∃ m, W.length = m + 1 := ⟨W.length - 1, by omega⟩
        obtain ⟨gb, cap, he⟩ := own_some hrow (by omega)
        rw [hm] at he ⊢
        obtain ⟨rfl, rfl⟩ : ga = some ⟨gb, 0, none⟩ ∧ gc = cap := by simpa using he
        clear he hrow h0
        have hwl := HWT.out.len HG.out
        have hml : m < W.length := by omega
        have hdm : d0 (W[m]'hml) = false := by
          cases hx : d0 (W[m]'hml)
          · rfl
          · have := HWT.out.lo _ hx; rw [HWT.out.out _ (List.getElem_mem _)] at this; cases this
        have hkm := HG.out.inn _ hdm
        obtain ⟨kn, hkn⟩ : ∃ kn : Nat, W[m]'hml = (kn : Int) := ⟨(W[m]'hml).toNat, by omega⟩
        have hknn : kn < n := by omega
        have hcell : wr.cell? ⟨gb, m, none⟩ = some (.pointer (some ⟨g + kn, 0, none⟩)) := by
          have hc := World.ownsRow.cells HROW.out (g := gb) rfl m (ndP g (W[m]'hml)) (by rw [List.getElem?_map, List.getElem?_eq_getElem (by omega)]; rfl)
          rw [addr0, hkn] at hc
          simpa [ndP] using hc
        have hgb := (World.ownsRow.lt HROW.out gb rfl)
        have hcap : m + 1 ≤ gc ∧ gc ≤ 9223372036854775807 := by
          obtain ⟨_, ⟨hx, _⟩ | ⟨gb', cap', cur, hx, _, _, h1, h2, _⟩⟩ := HROW.out
          · cases hx
          · simp only [Value.slice.injEq] at hx
            obtain ⟨_, h3, rfl⟩ := hx
            exact ⟨by omega, h2⟩
        have hkd0 : d' kn = false := by rw [← hkn]; exact HWT.out.out _ (List.getElem_mem _)
        have htl : (tr ++ X).length ≤ 2000 := by
          rw [List.length_append]
          have h1 := HJ.out.2.2.2.2
          have h2 := finM_one (d := d) (n := n) (by omega)
          have h3 := HTR.out
          omega
        have HCALL := Lib.hid (HST.out.call d' wr kn v1 (tr ++ X) hknn hkd0 HWT.out.lo HWT.out.hi HND.out HJ.out.1 htl (by omega))
        have hnoj : ¬ ojB g n bx v1 gb := by
          have hsep := HJ.out.2.2.1 gb (by simp [Value.ownBlock])
          rintro (h | h | h)
          · have := h.2; omega
          · omega
          · exact hsep h
        have HNOJ := Lib.hid hnoj
        have HKN := Lib.hid hkn
        have HM := Lib.hid hm
        have HKM := Lib.hid (And.intro hdm (And.intro hkm hkd0))
        clear hkn hm hdm hkm hkd0 htl hnoj
        go_wp2_with fail
        refine HCALL.out.mono ?_
        rintro e w2 ⟨v3, hord3, hown3, hf2, hcase⟩
        have hv3l := World.ownsRow.lt hord3.2
        have hs2 := hf2.size
        have hfr2 : Fr (ojB g n bx v) w w2 := HFR.out.trans hf2 (fun b hb => by
          rcases hb with h | h | h
          · exact .inl (.inl h)
          · exact .inl (.inr (.inl h))
          · exact (HJ.out.2.1 b h).imp (fun h => .inr (.inr h)) id)
        have hown32 : ∀ b, v3.ownBlock = some b → v.ownBlock = some b ∨ w.heap.size ≤ b := fun b hb => by
          rcases hown3 b hb with h | h
          · exact HJ.out.2.1 b h
          · exact .inr (by omega)
        have hsep3 : ¬ v3.ownBlock = some gb := fun h => by
          rcases hown3 gb h with h1 | h1
          · exact HNOJ.out (.inr (.inr h1))
          · omega
        have hrow2 : ElRow (ndP g) 74 w2 w.heap.size (.slice (some ⟨gb, 0, none⟩) (m + 1) gc) W := by
          rw [← HM.out]; exact ElRow.frO HROW.out hf2 (fun b hb => by
            simp [Value.ownBlock] at hb
            subst hb
            exact HNOJ.out)
        have HO3 := Lib.hid (And.intro hord3 (And.intro hown32 (And.intro hsep3 (And.intro hfr2 (And.intro hrow2 hv3l)))))
        clear hord3 hown3 hown32 hsep3 hfr2 hrow2 HCALL hv3l
        rcases hcase with ⟨j, hnx, rfl, hnd2⟩ | ⟨hnx, rfl, hnd2⟩
        · have hj1 := (nxt_some hnx).2
          have hj2 : d0 j = false := by
            cases hx : d0 j
            · rfl
            · rw [HWT.out.lo _ hx] at hj1; cases hj1
          have hj3 := HG.out.inn _ hj2
          obtain ⟨jn, rfl⟩ : ∃ jn : Nat, j = (jn : Int) := ⟨j.toNat, by omega⟩
          have hjn : jn < n := by omega
          have hjp : ndP g (jn : Int) = .pointer (some ⟨g + jn, 0, none⟩) := by simp [ndP]
          rw [hjp]
          have HN2 := Lib.hid hnd2
          have HX := Lib.hid hnx
          have hgb2 := (World.ownsRow.lt HO3.out.2.2.2.2.1 gb rfl)
          clear hf2 hnd2 hnx hj1 hj2 hjp hcell hj3
          go_wp2_with fail
          go_loop [5, 35] (fun v i => v = .slice (some ⟨gb, 0, none⟩) (m + 1) gc ∧ ∃ q : Nat, q ≤ m + 1 ∧ i = .int .i64 q ∧ ¬ (jn : Int) ∈ W.take q) (fun _ i => m + 1 - (intOf i).toNat)
          case atStart => exact ⟨rfl, 0, by omega, rfl, by simp⟩
          case round =>
            obtain ⟨rfl, q, hq, rfl, hnot⟩ := hrel
            have HNOT := Lib.hid hnot
            clear hnot
            by_cases hlq : q < m + 1
            · have hqw : q < W.length := by have := HM.out; omega
              have hd1 := HWT.out.out (W[q]'hqw) (List.getElem_mem _)
              have hd2 : d0 (W[q]'hqw) = false := by
                cases hx : d0 (W[q]'hqw)
                · rfl
                · rw [HWT.out.lo _ hx] at hd1; cases hd1
              have hd3 := HG.out.inn _ hd2
              obtain ⟨wq, hwq⟩ : ∃ wq : Nat, W[q]'hqw = (wq : Int) := ⟨(W[q]'hqw).toNat, by omega⟩
              have hcell : w2.cell? ⟨gb, q, none⟩ = some (.pointer (some ⟨g + wq, 0, none⟩)) := by
                have hc := World.ownsRow.cells HO3.out.2.2.2.2.1 (g := gb) rfl q (ndP g (W[q]'hqw)) (by rw [List.getElem?_map, List.getElem?_eq_getElem hqw]; rfl)
                rw [addr0, hwq] at hc
                simpa [ndP] using hc
              have heq := eql_nodes HN2.out (i := wq) (j := jn) (by omega) hjn
              have HWQ := Lib.hid hwq
              clear hd1 hd2 hd3 hwq
              by_cases hjq : wq = jn
              · subst hjq
                rw [decide_eq_true rfl] at heq
                go_wp2_with fail
                go_ret
                have hjW : (wq : Int) ∈ W := by rw [← HWQ.out]; exact List.getElem_mem _
                obtain ⟨h1, h2⟩ := HWT.out.circle HG.out HM.out (by rw [HKN.out]; exact HX.out) hjW
                exact ⟨d', m + 1 - q, some ⟨gb, q, none⟩, gc - q, v3, X ++ em kn (nxt ch d' kn), rfl, by omega, by omega, HN2.out, HDD.out, HWT.out.hi, by rw [← List.append_assoc]; exact HO3.out.1, HO3.out.2.1, HO3.out.2.2.2.1, .inr ⟨by omega, h1⟩⟩
              · rw [decide_eq_false hjq] at heq
                have HNS := Lib.hid (show ¬ (jn : Int) ∈ W.take (q + 1) by
                  rw [List.take_succ_eq_append_getElem hqw, List.mem_append, List.mem_singleton]
                  rintro (h | h)
                  · exact HNOT.out h
                  · rw [HWQ.out] at h; omega)
                clear hjq
                go_wp2_with fail
                go_round
                case rel => exact ⟨rfl, q + 1, by omega, by go_num, HNS.out⟩
                case measure => simp [intOf]; omega
            · obtain rfl : q = m + 1 := by omega
              have hnin : ¬ (jn : Int) ∈ W := by
                have := HNOT.out
                rwa [List.take_of_length_le (by have := HM.out; omega)] at this
              have HNIN := Lib.hid hnin
              obtain ⟨iP, pi, pz0, pz1, pz2⟩ := info_parts infoPtr
              have HIP := Lib.hid (And.intro pi (And.intro pz0 (And.intro pz1 pz2)))
              have hown : w2.ownsRow w.heap.size 74 1 (.slice (some ⟨gb, 0, none⟩) (m + 1) gc) (m + 1) (W.map (ndP g)) := by
                have h := HO3.out.2.2.2.2.1
                unfold ElRow at h
                rwa [HM.out] at h
              have HOW := Lib.hid hown
              have hml2 : maxLen = 9223372036854775807 := rfl
              have HML := Lib.hid hml2
              clear hnin pi pz0 pz1 pz2 hown hml2
              go_wp2_with (at_builtin; refine wpList_append_row _ rfl (.tmp 47) (.tmp 49) 80 rfl w.heap.size 74 iP (.pointer none) 1 8 Try.underlying80 HIP.out.1 HIP.out.2.1 HIP.out.2.2.1 HIP.out.2.2.2 rfl (by decide) _ (m + 1) (W.map (ndP g)) rfl (World.ownsRow.alloc HOW.out _) ⟨w2.heap.size, 0, none⟩ 1 1 [.pointer (some ⟨g + jn, 0, none⟩)] rfl rfl ?d1 ?d2 (by decide) ?d3 ?d4 ?d5 ?_)
              case d2 => simp [Value.oneCell']
              case d3 => rw [HML.out]; omega
              case d4 => omega
              case d5 => have := HO3.out.2.2.2.1.size; first | omega | (simp; omega)
              intro v2 w3 hown hgr hnew
              have hWl : (W ++ [(jn : Int)]).length = m + 1 + 1 := by rw [List.length_append, HM.out]; rfl
              have hrow3 : ElRow (ndP g) 74 w3 w.heap.size v2 (W ++ [(jn : Int)]) := by
                unfold ElRow
                rw [hWl, List.map_append]
                have e : [(jn : Int)].map (ndP g) = [.pointer (some ⟨g + jn, 0, none⟩)] := by simp [ndP]
                rw [e]
                exact hown
              have hf3 : Fr (fun b => b = gb) (w2.alloc (.cells #[.pointer (some ⟨g + jn, 0, none⟩)] 74)) w3 := ⟨hgr.os, hgr.tape, hgr.output, hgr.size, fun b hb hn => hgr.block b hb (by simp [Value.ownBlock]; exact hn)⟩
              have hnd3 : Nds w3 S s g n (mpv s g n) (cv d') d' := (HN2.out.alloc _).fr hf3 (fun b hb => by rintro (h | h) <;> first | (have := HS.out.1 b h; omega) | omega)
              have hfr3 : Fr (ojB g n bx v) w w3 := (HO3.out.2.2.2.1.trans (D' := ojB g n bx v) (Fr.of_below ((Below.refl _ _).alloc (Nat.le_refl _) _)) (fun b hb => .inl hb)).trans hf3 (fun b hb => .inr (by omega))
              have hord4 : OrdAt w3 bx base v3 (tr ++ (X ++ em kn (nxt ch d' kn))) := by
                rw [← List.append_assoc]
                exact ⟨(HO3.out.1.1.alloc _).fr hf3 (by omega), ElRow.frO (f := Value.int .i64) (e := 3) (ElRow.alloc (f := Value.int .i64) (e := 3) HO3.out.1.2 _) hf3 (fun b hb h => HO3.out.2.2.1 (by rw [← h]; exact hb))⟩
              have hsep4 : ∀ b, v2.ownBlock = some b → ¬ v3.ownBlock = some b := fun b hb h => by
                rcases hnew b hb with h1 | h1
                · simp [Value.ownBlock] at h1
                  subst h1
                  exact HO3.out.2.2.1 h
                · have := (HO3.out.2.2.2.2.2 b h).2
                  first | omega | (simp at h1; omega)
              have hwm : W[m]'hml = (kn : Int) := HKN.out
              have hsim4 : Sim em ch d i0 (X ++ em kn (nxt ch d' kn)) d' (W ++ [(jn : Int)]) := by
                have := HJ.out.2.2.2.1.push HM.out (by rw [hwm]; exact HKM.out.2.2) (by rw [hwm]; exact HX.out)
                rw [hwm] at this
                rw [HX.out]
                exact this
              have hpush := HWT.out.push HM.out (by rw [HKN.out]; exact HX.out) HNIN.out
              have hlen := hpush.len HG.out
              rw [hWl] at hlen
              have hlt : finM d' n (m + 1 + 1) < gk := by rw [HGK.out, HM.out]; exact finM_push hlen
              have hlen4 : (X ++ em kn (nxt ch d' kn)).length + finM d' n (m + 1 + 1) ≤ finM d n 1 := by
                rw [List.length_append]
                have h1 := HJ.out.2.2.2.2
                have h2 := HST.out.em1 kn (nxt ch d' kn)
                omega
              have H3 := Lib.hid (And.intro hrow3 (And.intro hnd3 (And.intro hfr3 (And.intro hpush (And.intro hord4 (And.intro hsep4 (And.intro hsim4 hlen4)))))))
              have HLT := Lib.hid hlt
              have HWL := Lib.hid hWl
              clear hown hgr hrow3 hf3 hnd3 hfr3 hpush hlen hlt hWl hord4 hsep4 hwm hsim4 hlen4 hnew
              go_wp2_with fail
              go_roundg (finM d' n (m + 1 + 1))
              case rel => exact ⟨d', W ++ [(jn : Int)], v3, X ++ em kn (nxt ch d' kn), by rw [HWL.out], H3.out.2.2.2.1, HDD.out, H3.out.1, H3.out.2.1, H3.out.2.2.1, H3.out.2.2.2.2.1, HO3.out.2.1, H3.out.2.2.2.2.2.1, H3.out.2.2.2.2.2.2.1, H3.out.2.2.2.2.2.2.2⟩
              case measure => exact HLT.out
        · have hpop := HWT.out.pop HG.out HM.out (by rw [HKN.out]; exact hnx)
          rw [HKN.out] at hpop
          have hup : ∀ k, d k = true → upd d' kn k = true := fun k hk => by unfold upd; rw [HDD.out k hk]; rfl
          have hwm : W[m]'hml = (kn : Int) := HKN.out
          have hsim4 : Sim em ch d i0 (X ++ em kn (nxt ch d' kn)) (upd d' kn) (W.take m) := by
            have := HJ.out.2.2.2.1.pop HM.out (by rw [hwm]; exact HKM.out.2.2) (by rw [hwm]; exact hnx)
            rw [hwm] at this
            rw [hnx]
            exact this
          have hkd : d' kn = false := HKM.out.2.2
          have hlt : finM (upd d' kn) n m < gk := by rw [HGK.out, HM.out]; exact finM_pop (by omega) (by omega) hkd (by omega)
          have hlen4 : (X ++ em kn (nxt ch d' kn)).length + finM (upd d' kn) n m ≤ finM d n 1 := by
            rw [List.length_append]
            have h1 := HJ.out.2.2.2.2
            have h2 := HST.out.em1 kn (nxt ch d' kn)
            omega
          have hsep4 : ∀ b, (Value.slice (some ⟨gb, 0, none⟩) m gc).ownBlock = some b → ¬ v3.ownBlock = some b := fun b hb h => by
            simp [Value.ownBlock] at hb
            subst hb
            exact HO3.out.2.2.1 h
          have hord4 : OrdAt w2 bx base v3 (tr ++ (X ++ em kn (nxt ch d' kn))) := by rw [← List.append_assoc]; exact HO3.out.1
          have H2 := Lib.hid (And.intro hpop (And.intro hup (And.intro (HO3.out.2.2.2.2.1.take m (by omega)) (And.intro hnd2 (And.intro hord4 (And.intro hsep4 (And.intro hsim4 hlen4)))))))
          have HLT := Lib.hid hlt
          have htl : (W.take m).length = m := by rw [List.length_take]; omega
          have HTL := Lib.hid htl
          clear hf2 hnx hnd2 hpop hup hkd hlt htl hcell hwm hsim4 hlen4 hsep4 hord4
          go_wp2_with fail
          go_roundg (finM (upd d' kn) n m)
          case rel => exact ⟨upd d' kn, W.take m, v3, X ++ em kn (nxt ch d' kn), by rw [HTL.out], H2.out.1, H2.out.2.1, H2.out.2.2.1, H2.out.2.2.2.1, HO3.out.2.2.2.1, H2.out.2.2.2.2.1, HO3.out.2.1, H2.out.2.2.2.2.2.1, H2.out.2.2.2.2.2.2.1, H2.out.2.2.2.2.2.2.2⟩
          case measure => exact HLT.out
  · go_enter Try.func54, Try.ntmps54
    go_wp2_with fail
    go_step3
    go_wp2_with fail
    rw [Exit.noGoto_ret]
    go_ret
    exact ⟨d, 0, none, 0, v, [], rfl, Nat.zero_le _, by omega, HN.out, fun _ h => h, HHI.out, by rw [List.append_nil]; exact HO.out, fun _ h => .inl h, Fr.of_below (Below.refl _ _), .inl ⟨rfl, HDV.out.symm, Visit.done HDV.out.symm, by simp⟩⟩
end Go.Proofs.Ytochgmbeomfkpaa
