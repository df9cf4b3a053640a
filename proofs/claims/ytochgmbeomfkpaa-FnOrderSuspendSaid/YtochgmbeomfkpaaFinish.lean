/- impl.finish with whatever step -/
import Derived.Test.YtochgmbeomfkpaaNodes
import Derived.Deep.LoopGhost
import Derived.LaidEqlPtr
namespace Go.Proofs.Ytochgmbeomfkpaa
open Go.RowKit

theorem infoNode : (Try.prog.info? 78).map (fun i => i.size) = some 16 := by kernel_rfl

/-- Two nodes are the same just if their keys are. -/
theorem eql_nodes {w : World} {S : Nat → Prop} {s : Sh} {g n : Nat} {m : Nat → Nat → Value} {v : Int → Int} {d : Int → Bool} (h : Nds w S s g n m v d) {i j : Nat} (hi : i < n) (hj : j < n) :
    (binOp .eql 74 (.pointer (some ⟨g + i, 0, none⟩)) (.pointer (some ⟨g + j, 0, none⟩))).run Try.prog w = .ok (.bool (decide (i = j))) w := by
  obtain ⟨t, ht, hs⟩ := Option.map_eq_some_iff.1 infoNode
  by_cases hij : i = j
  · subst hij
    rw [decide_eq_true rfl]
    exact run_eql_ptr_same w _ Try.underlying74 ht
  · rw [decide_eq_false hij]
    obtain ⟨_, _, hb1, _⟩ := h i hi
    obtain ⟨_, _, hb2, _⟩ := h j hj
    exact run_eql_ptr_other w Try.underlying74 ht (by rw [hs]; decide) (by intro e; injection e with e; omega) hb1 hb2

/-- The function f takes a step. -/
structure StepOk (f : FuncId) (S : Nat → Prop) (s : Sh) (g n : Nat) (cv : (Int → Bool) → Int → Int) (ch : Int → List Int) (d0 ok : Int → Bool) : Prop where
  call : ∀ (d : Int → Bool) (w : World) (i : Nat), i < n → d i = false → (∀ k, d0 k = true → d k = true) → (∀ k, d k = true → ok k = true) → Nds w S s g n (mpv s g n) (cv d) d → Calls Try.prog f #[.pointer (some ⟨g + i, 0, none⟩)] w (StPost S s g n cv ch d i w)
  enters : ∀ args w, (callFunc f args).run Try.prog w = .ok (.enter f args) w

/-- What finish leaves. -/
def FinPost (S : Nat → Prop) (s : Sh) (g n : Nat) (cv : (Int → Bool) → Int → Int) (ch : Int → List Int) (ok d : Int → Bool) (first : Int) (w : World) (e : Ending) (w' : World) : Prop :=
  ∃ (d' : Int → Bool) (L : List Int) (a : Option Addr) (c : Nat), e = .returned (.slice a L.length c) ∧ ElAt (ndP g) w' (fun b => w.heap.size ≤ b) L a c ∧ Nds w' S s g n (mpv s g n) (cv d') d' ∧ (∀ k, d k = true → d' k = true) ∧ (∀ k, d' k = true → ok k = true) ∧
    Fr (ndB g n) w w' ∧ (L.length ≤ n ∧ ∀ x ∈ L, 0 ≤ x ∧ x < n) ∧ ((L = [] ∧ d' first = true) ∨ (L ≠ [] ∧ ok first = false ∧ L = circ n ch ok [] first))

theorem ElRow.take {α : Type} {f : α → Value} {e : TypeId} {w : World} {base gb n cap : Nat} {l : List α} (h : ElRow f e w base (.slice (some ⟨gb, 0, none⟩) n cap) l) (m : Nat) (hm : m ≤ l.length) : ElRow f e w base (.slice (some ⟨gb, 0, none⟩) m cap) (l.take m) := by
  obtain ⟨h0, ⟨h1, _⟩ | ⟨g', cap', cur, h1, h2, h3, h4, h5, h6, h7⟩⟩ := h
  · cases h1
  · simp only [Value.slice.injEq, Option.some.injEq, Addr.mk.injEq, and_true] at h1
    obtain ⟨rfl, rfl, rfl⟩ := h1
    have hl : (l.take m).length = m := by rw [List.length_take]; omega
    refine ⟨by rw [hl]; simp; omega, .inr ⟨gb, cap, cur, by rw [hl], h2, h3, by omega, h5, h6, ?_⟩⟩
    rw [hl, List.map_take, ← h7, List.take_take]
    congr 1
    omega

def finM (d : Int → Bool) (n len : Nat) : Nat := undone d n * (n + 1) + (n - len)
theorem finM_pop {d : Int → Bool} {n len : Nat} {k : Int} (h0 : 0 ≤ k) (h1 : k < n) (hd : d k = false) (hl : len + 1 ≤ n) : finM (upd d k) n len < finM d n (len + 1) := by
  have h := undone_upd d k n h0 h1 hd
  unfold finM
  rw [← h, Nat.succ_mul]
  omega
theorem finM_push {d : Int → Bool} {n len : Nat} (hl : len + 1 ≤ n) : finM d n (len + 1) < finM d n len := by
  unfold finM
  omega

set_option maxRecDepth 100000 in
set_option maxHeartbeats 4000000 in
theorem finish_any {f : FuncId} {S : Nat → Prop} {s : Sh} {g n : Nat} {cv : (Int → Bool) → Int → Int} {ch : Int → List Int} {d0 ok : Int → Bool} {rk : Int → Nat} (hg : Gr n ch d0 ok rk) (hst : StepOk f S s g n cv ch d0 ok) (hn10 : n ≤ 10) (hS : ∀ b, S b → b < g)
    (w : World) (d : Int → Bool) (i0 : Nat) (hi : i0 < n) (hlo : ∀ k, d0 k = true → d k = true) (hhi : ∀ k, d k = true → ok k = true) (h : Nds w S s g n (mpv s g n) (cv d) d) :
    Calls Try.prog 54 #[.pointer (some ⟨g + i0, 0, none⟩), .func (.func f) #[] #[]] w (FinPost S s g n cv ch ok d i0 w) := by
  obtain ⟨_, _, hgi, _, _, _, _, _, _, z15, _, _⟩ := h.node hi
  obtain ⟨dv, hdv⟩ : ∃ b, b = d i0 := ⟨_, rfl⟩
  rw [← hdv] at z15
  have HN := Lib.hid h
  have HG := Lib.hid hg
  have HST := Lib.hid hst
  have HS := Lib.hid hS
  have HLO := Lib.hid hlo
  have HHI := Lib.hid hhi
  have eg := hst.enters
  have hgn : g + n ≤ w.heap.size := by
    obtain ⟨_, _, hl, _⟩ := h.node (i := n - 1) (by omega)
    omega
  have HDV := Lib.hid hdv
  clear h hg hst hS hlo hhi hdv
  cases dv
  · clear z15
    obtain ⟨_, _, _, _, _, _, _, _, _, z15, _, _⟩ := HN.out.node hi
    rw [← HDV.out] at z15
    go_enter Try.func54, Try.ntmps54
    go_wp2_with fail
    go_step3
    go_wp2_with fail
    go_step3
    go_wp2_with fail
    have hr0 : ElRow (ndP g) 74 (w.alloc (.cells #[.pointer (some ⟨g + i0, 0, none⟩)] 74)) w.heap.size (.slice (some ⟨w.heap.size, 0, none⟩) 1 1) [(i0 : Int)] :=
      ElRow.of_blk (l := [(i0 : Int)]) (Blk.new w 74 #[.pointer (some ⟨g + i0, 0, none⟩)]) (Nat.le_refl _) (by simp [ndP]) (by simp)
    have HR0 := Lib.hid (And.intro hr0 (And.intro (HN.out.alloc (.cells #[.pointer (some ⟨g + i0, 0, none⟩)] 74)) (show Fr (ndB g n) w (w.alloc (.cells #[.pointer (some ⟨g + i0, 0, none⟩)] 74)) from Fr.of_below ((Below.refl _ _).alloc (Nat.le_refl _) _))))
    have HW0 := Lib.hid (Wt.start (ch := ch) (first := (i0 : Int)) HLO.out HHI.out HDV.out.symm)
    clear hr0 z15 hgi
    go_loopg [5] (finM d n 1) (fun gk wv wr => ∃ (d' : Int → Bool) (W : List Int), gk = finM d' n W.length ∧ Wt ch d0 ok d' i0 W ∧ (∀ k, d k = true → d' k = true) ∧ ElRow (ndP g) 74 wr w.heap.size wv W ∧ Nds wr S s g n (mpv s g n) (cv d') d' ∧ Fr (ndB g n) w wr)
    case atStart => exact ⟨d, [(i0 : Int)], rfl, HW0.out, fun _ h => h, HR0.out.1, HR0.out.2.1, HR0.out.2.2⟩
    case round =>
      obtain ⟨d', W, hgk, hwt, hdd, hrow, hnd, hfr⟩ := hrel
      have HWT := Lib.hid hwt
      have HDD := Lib.hid hdd
      have HROW := Lib.hid hrow
      have HND := Lib.hid hnd
      have HFR := Lib.hid hfr
      have HGK := Lib.hid hgk
      clear HR0 HW0 hwt hdd hnd hgk
      have hwsz := hfr.size
      clear hfr
      obtain ⟨ga, gc, rfl, _⟩ := ElRow.at hrow
      by_cases h0 : W.length = 0
      · obtain rfl : W = [] := List.length_eq_zero_iff.1 h0
        clear h0 hrow
        go_wp2_with fail
        rw [Exit.noGoto_ret]
        go_ret
        exact ⟨d', [], _, _, rfl, ElAt.nil (by have := ElRow.at HROW.out; obtain ⟨_, _, h1, h2⟩ := this; injection h1 with h1 h3 h4; subst h4; exact h2.2.1), HND.out, HDD.out, HWT.out.hi, HFR.out, by simp, .inl ⟨rfl, HWT.out.nil rfl⟩⟩
      · obtain ⟨m, hm⟩ : ∃ m, W.length = m + 1 := ⟨W.length - 1, by omega⟩
        obtain ⟨gb, cap, he⟩ := own_some hrow (by omega)
        rw [hm] at he ⊢
        obtain ⟨rfl, rfl⟩ : ga = some ⟨gb, 0, none⟩ ∧ gc = cap := by simpa using he
        clear he hrow h0
        have hwl := HWT.out.len HG.out
        have hml : m < W.length := by omega
        have hdm : d0 (W[m]'hml) = false := by
          cases hx : d0 (W[m]'hml)
          · rfl
          · have := HWT.out.lo _ hx; rw [HWT.out.out _ (List.getElem_mem _)] at this; cases this
        have hkm := HG.out.inn _ hdm
        obtain ⟨kn, hkn⟩ : ∃ kn : Nat, W[m]'hml = (kn : Int) := ⟨(W[m]'hml).toNat, by omega⟩
        have hknn : kn < n := by omega
        have hcell : wr.cell? ⟨gb, m, none⟩ = some (.pointer (some ⟨g + kn, 0, none⟩)) := by
          have hc := World.ownsRow.cells HROW.out (g := gb) rfl m (ndP g (W[m]'hml)) (by rw [List.getElem?_map, List.getElem?_eq_getElem (by omega)]; rfl)
          rw [addr0, hkn] at hc
          simpa [ndP] using hc
        have hgb := (World.ownsRow.lt HROW.out gb rfl)
        have hcap : m + 1 ≤ gc ∧ gc ≤ 9223372036854775807 := by
          obtain ⟨_, ⟨hx, _⟩ | ⟨gb', cap', cur, hx, _, _, h1, h2, _⟩⟩ := HROW.out
          · cases hx
          · simp only [Value.slice.injEq] at hx
            obtain ⟨_, h3, rfl⟩ := hx
            exact ⟨by omega, h2⟩
        have HKN := Lib.hid hkn
        have HM := Lib.hid hm
        have HKM := Lib.hid (And.intro hdm hkm)
        clear hkn hm hdm hkm
        go_wp2_with fail
        have hkd0 : d' kn = false := by rw [← HKN.out]; exact HWT.out.out _ (List.getElem_mem _)
        refine (HST.out.call d' wr kn hknn hkd0 HWT.out.lo HWT.out.hi HND.out).mono ?_
        rintro e w2 ⟨hf2, ⟨j, hnx, rfl, hnd2⟩ | ⟨hnx, rfl, hnd2⟩⟩
        · have hrow2 : ElRow (ndP g) 74 w2 w.heap.size (.slice (some ⟨gb, 0, none⟩) (m + 1) gc) W := by
            rw [← HM.out]; exact ElRow.fr HROW.out hf2 (fun b hb => by have := hb.2; omega)
          have hj1 := (nxt_some hnx).2
          have hj2 : d0 j = false := by
            cases hx : d0 j
            · rfl
            · rw [HWT.out.lo _ hx] at hj1; cases hj1
          have hj3 := HG.out.inn _ hj2
          obtain ⟨jn, rfl⟩ : ∃ jn : Nat, j = (jn : Int) := ⟨j.toNat, by omega⟩
          have hjn : jn < n := by omega
          have hjp : ndP g (jn : Int) = .pointer (some ⟨g + jn, 0, none⟩) := by simp [ndP]
          rw [hjp]
          have HR2 := Lib.hid hrow2
          have HN2 := Lib.hid hnd2
          have HF2 := Lib.hid (HFR.out.trans hf2 (fun b hb => .inl hb))
          have HX := Lib.hid hnx
          have hgb2 := (World.ownsRow.lt hrow2 gb rfl)
          clear hf2 hnd2 hrow2 hnx hj1 hj2 hjp hcell hj3
          go_wp2_with fail
          go_loop [5, 35] (fun v i => v = .slice (some ⟨gb, 0, none⟩) (m + 1) gc ∧ ∃ q : Nat, q ≤ m + 1 ∧ i = .int .i64 q ∧ ¬ (jn : Int) ∈ W.take q) (fun _ i => m + 1 - (intOf i).toNat)
          case atStart => exact ⟨rfl, 0, by omega, rfl, by simp⟩
          case round =>
            obtain ⟨rfl, q, hq, rfl, hnot⟩ := hrel
            have HNOT := Lib.hid hnot
            clear hnot
            by_cases hlq : q < m + 1
            · have hqw : q < W.length := by have := HM.out; omega
              have hd1 := HWT.out.out (W[q]'hqw) (List.getElem_mem _)
              have hd2 : d0 (W[q]'hqw) = false := by
                cases hx : d0 (W[q]'hqw)
                · rfl
                · rw [HWT.out.lo _ hx] at hd1; cases hd1
              have hd3 := HG.out.inn _ hd2
              obtain ⟨wq, hwq⟩ : ∃ wq : Nat, W[q]'hqw = (wq : Int) := ⟨(W[q]'hqw).toNat, by omega⟩
              have hcell : w2.cell? ⟨gb, q, none⟩ = some (.pointer (some ⟨g + wq, 0, none⟩)) := by
                have hc := World.ownsRow.cells HR2.out (g := gb) rfl q (ndP g (W[q]'hqw)) (by rw [List.getElem?_map, List.getElem?_eq_getElem hqw]; rfl)
                rw [addr0, hwq] at hc
                simpa [ndP] using hc
              have heq := eql_nodes HN2.out (i := wq) (j := jn) (by omega) hjn
              have HWQ := Lib.hid hwq
              clear hd1 hd2 hd3 hwq
              by_cases hjq : wq = jn
              · subst hjq
                rw [decide_eq_true rfl] at heq
                go_wp2_with fail
                go_ret
                have hjW : (wq : Int) ∈ W := by rw [← HWQ.out]; exact List.getElem_mem _
                obtain ⟨h1, h2⟩ := HWT.out.circle HG.out HM.out (by rw [HKN.out]; exact HX.out) hjW
                have hidx : W.idxOf (wq : Int) = q := by
                  have hlt := List.idxOf_lt_length_of_mem hjW
                  have he : W[W.idxOf (wq : Int)]'hlt = (wq : Int) := List.getElem_idxOf hlt
                  exact nodup_inj HWT.out.nod (he.trans HWQ.out.symm)
                rw [hidx] at h2
                have hdl : (W.drop q).length = m + 1 - q := by rw [List.length_drop, HM.out]
                refine ⟨d', W.drop q, some ⟨gb, q, none⟩, gc - q, by rw [hdl]; rfl, ⟨by rw [hdl]; omega, by omega, .inr ⟨gb, q, rfl, hgb2.1, fun i hi => ?_⟩⟩, HN2.out, HDD.out, HWT.out.hi, HF2.out, ⟨by rw [hdl]; omega, fun x hx => HG.out.inn x (by
                  have hxW := List.mem_of_mem_drop hx
                  cases hx0 : d0 x
                  · rfl
                  · have := HWT.out.lo _ hx0; rw [HWT.out.out _ hxW] at this; cases this)⟩, .inr ⟨?_, h1, h2⟩⟩
                · rw [hdl] at hi
                  have hc := World.ownsRow.cells HR2.out (g := gb) rfl (q + i) (ndP g (W[q + i]'(by have := HM.out; omega))) (by rw [List.getElem?_map, List.getElem?_eq_getElem (by have := HM.out; omega)]; rfl)
                  rw [addr0] at hc
                  rw [hc, List.getElem_drop]
                · intro e
                  rw [e] at hdl
                  simp at hdl
                  omega
              · rw [decide_eq_false hjq] at heq
                have HNS := Lib.hid (show ¬ (jn : Int) ∈ W.take (q + 1) by
                  rw [List.take_succ_eq_append_getElem hqw, List.mem_append, List.mem_singleton]
                  rintro (h | h)
                  · exact HNOT.out h
                  · rw [HWQ.out] at h; omega)
                clear hjq
                go_wp2_with fail
                go_round
                case rel => exact ⟨rfl, q + 1, by omega, by go_num, HNS.out⟩
                case measure => simp [intOf]; omega
            · obtain rfl : q = m + 1 := by omega
              have hnin : ¬ (jn : Int) ∈ W := by
                have := HNOT.out
                rwa [List.take_of_length_le (by have := HM.out; omega)] at this
              have HNIN := Lib.hid hnin
              obtain ⟨iP, pi, pz0, pz1, pz2⟩ := info_parts infoPtr
              have HIP := Lib.hid (And.intro pi (And.intro pz0 (And.intro pz1 pz2)))
              have hown : w2.ownsRow w.heap.size 74 1 (.slice (some ⟨gb, 0, none⟩) (m + 1) gc) (m + 1) (W.map (ndP g)) := by
                have h := HR2.out
                unfold ElRow at h
                rwa [HM.out] at h
              have HOW := Lib.hid hown
              have hml2 : maxLen = 9223372036854775807 := rfl
              have HML := Lib.hid hml2
              clear hnin pi pz0 pz1 pz2 hown hml2
              go_wp2_with (at_builtin; refine wpList_append_row _ rfl (.tmp 47) (.tmp 49) 80 rfl w.heap.size 74 iP (.pointer none) 1 8 Try.underlying80 HIP.out.1 HIP.out.2.1 HIP.out.2.2.1 HIP.out.2.2.2 rfl (by decide) _ (m + 1) (W.map (ndP g)) rfl (World.ownsRow.alloc HOW.out _) ⟨w2.heap.size, 0, none⟩ 1 1 [.pointer (some ⟨g + jn, 0, none⟩)] rfl rfl ?d1 ?d2 (by decide) ?d3 ?d4 ?d5 ?_)
              case d2 => simp [Value.oneCell']
              case d3 => rw [HML.out]; omega
              case d4 => omega
              case d5 => have := HF2.out.size; first | omega | (simp; omega)
              intro v2 w3 hown hgr _
              have hWl : (W ++ [(jn : Int)]).length = m + 1 + 1 := by rw [List.length_append, HM.out]; rfl
              have hrow3 : ElRow (ndP g) 74 w3 w.heap.size v2 (W ++ [(jn : Int)]) := by
                unfold ElRow
                rw [hWl, List.map_append]
                have e : [(jn : Int)].map (ndP g) = [.pointer (some ⟨g + jn, 0, none⟩)] := by simp [ndP]
                rw [e]
                exact hown
              have hf3 : Fr (fun b => b = gb) (w2.alloc (.cells #[.pointer (some ⟨g + jn, 0, none⟩)] 74)) w3 := ⟨hgr.os, hgr.tape, hgr.output, hgr.size, fun b hb hn => hgr.block b hb (by simp [Value.ownBlock]; exact hn)⟩
              have hnd3 : Nds w3 S s g n (mpv s g n) (cv d') d' := (HN2.out.alloc _).fr hf3 (fun b hb => by rintro (h | h) <;> first | (have := HS.out b h; omega) | omega)
              have hfr3 : Fr (ndB g n) w w3 := (HF2.out.trans (D' := ndB g n) (Fr.of_below ((Below.refl _ _).alloc (Nat.le_refl _) _)) (fun b hb => .inl hb)).trans hf3 (fun b hb => .inr (by omega))
              have hpush := HWT.out.push HM.out (by rw [HKN.out]; exact HX.out) HNIN.out
              have H3 := Lib.hid (And.intro hrow3 (And.intro hnd3 (And.intro hfr3 hpush)))
              have hlen := hpush.len HG.out
              rw [hWl] at hlen
              have hlt : finM d' n (m + 1 + 1) < gk := by rw [HGK.out, HM.out]; exact finM_push hlen
              have HLT := Lib.hid hlt
              have HWL := Lib.hid hWl
              clear hown hgr hrow3 hf3 hnd3 hfr3 hpush hlen hlt hWl
              go_wp2_with fail
              go_roundg (finM d' n (m + 1 + 1))
              case rel => exact ⟨d', W ++ [(jn : Int)], by rw [HWL.out], H3.out.2.2.2, HDD.out, H3.out.1, H3.out.2.1, H3.out.2.2.1⟩
              case measure => exact HLT.out
        · have hrow2 : ElRow (ndP g) 74 w2 w.heap.size (.slice (some ⟨gb, 0, none⟩) (m + 1) gc) W := by
            rw [← HM.out]; exact ElRow.fr HROW.out hf2 (fun b hb => by have := hb.2; omega)
          have hpop := HWT.out.pop HG.out HM.out (by rw [HKN.out]; exact hnx)
          rw [HKN.out] at hpop
          have hup : ∀ k, d k = true → upd d' kn k = true := fun k hk => by unfold upd; rw [HDD.out k hk]; rfl
          have H2 := Lib.hid (And.intro hpop (And.intro hup (And.intro (hrow2.take m (by omega)) (And.intro hnd2 (HFR.out.trans hf2 (fun b hb => .inl hb))))))
          have hkd : d' kn = false := by rw [← HKN.out]; exact HWT.out.out _ (List.getElem_mem _)
          have hlt : finM (upd d' kn) n m < gk := by rw [HGK.out, HM.out]; exact finM_pop (by omega) (by omega) hkd (by omega)
          have HLT := Lib.hid hlt
          have htl : (W.take m).length = m := by rw [List.length_take]; omega
          have HTL := Lib.hid htl
          clear hf2 hnx hnd2 hrow2 hpop hup hkd hlt htl hcell
          go_wp2_with fail
          go_roundg (finM (upd d' kn) n m)
          case rel => exact ⟨upd d' kn, W.take m, by rw [HTL.out], H2.out.1, H2.out.2.1, H2.out.2.2.1, H2.out.2.2.2.1, H2.out.2.2.2.2⟩
          case measure => exact HLT.out
  · go_enter Try.func54, Try.ntmps54
    go_wp2_with fail
    go_step3
    go_wp2_with fail
    rw [Exit.noGoto_ret]
    go_ret
    exact ⟨d, [], none, 0, rfl, ElAt.nil (by omega), HN.out, fun _ h => h, HHI.out, Fr.of_below (Below.refl _ _), by simp, .inl ⟨rfl, HDV.out.symm⟩⟩
end Go.Proofs.Ytochgmbeomfkpaa
