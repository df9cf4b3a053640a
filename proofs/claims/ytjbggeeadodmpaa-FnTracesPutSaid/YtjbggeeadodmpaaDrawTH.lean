/- l91More, telling where the reader stands behind it; DrawTraceHolds -/
import Derived.Test.YtjbggeeadodmpaaDrawM
import Derived.Test.YtjbggeeadodmpaaTrsD
import Derived.Test.YtjbggeeadodmpaaTrK
import Derived.StillTailTactics
namespace Go.Proofs.Ytjbggeeadodmpaa
open Go.RowKit

def MoreR (g p : Nat) (l : List Int) (w : World) (e : Ending) (w' : World) : Prop :=
  ∃ (y : List Int) (v : Value) (q : Nat), e = .returned v ∧ NumRow w' w.heap.size v y ∧ y.length = l.length ∧ (∀ x ∈ y, 0 ≤ x ∧ x ≤ 97) ∧ p ≤ q ∧ q ≤ p + 7 ∧ RdAt w' g q ∧ Only g w w'

set_option maxHeartbeats 2000000 in
/-- The loop of l91More, and its end. -/
theorem moreR_any (w : World) (g p base : Nat) (v : Value) (l : List Int) (hr : RdAt w g p) (hp : p ≤ 990000) (hv : NumRow w base v l) (hb : ∀ x ∈ l, 0 ≤ x ∧ x ≤ 97) (hl : l.length ≤ 12) (_hg : g < base) :
    Calls Try.prog 30 #[.pointer (some ⟨g, 0, none⟩), v] w (MoreR g p l w) := by
  obtain ⟨iN, ni, nz0, nz1, nz2⟩ := info_parts infoInt
  have HIN := Lib.hid (And.intro ni (And.intro nz0 (And.intro nz1 nz2)))
  have hml : maxLen = 9223372036854775807 := rfl
  have HML := Lib.hid hml
  have hgl := hr.lt
  have HR0 := Lib.hid (hr.alloc (.cells #[] 3))
  have HN0 := Lib.hid (rowN_new w)
  have HO0 := Lib.hid ((Only.refl g w).alloc (.cells #[] 3))
  have hb' := hb
  have HB := Lib.hid hb'
  have hcs := row_cells (hv.only (g := g) (HO0.out) (by omega))
  have HLB := Lib.hid hl
  clear ni nz0 nz1 nz2 hml hr hb hv hb'
  rcases hcs with ⟨rfl, hl0⟩ | ⟨gv, cap, rfl, hcs⟩
  · have HL0 := Lib.hid hl0
    clear hl0 hl
    go_enter Try.func30, Try.ntmps30
    go_wp2_with (at_builtin; refine wpList_append_own_none rfl (.tmp 7) (.tmp 8) 26 rfl w.heap.size 3 iN 1 Try.underlying26 HIN.out.1 _ 0 [] rfl HN0.out rfl ?_)
    refine (pick_any _ g p 3 HR0.out (by omega) (by omega) (by omega)).mono ?_
    rintro e w1 ⟨r, rfl, h0, _, hrd, ho⟩
    have HX := Lib.hid (And.intro (HN0.out.only ho hgl) (HO0.out.trans ho))
    have HRX := Lib.hid hrd
    obtain ⟨rn, rfl⟩ : ∃ rn : Nat, r = rn := ⟨r.toNat, by omega⟩
    clear hrd ho HR0 HN0 HO0
    go_wp2_with fail
    go_loopw [6] (fun i wr => i = .int .i64 rn ∧ wr = w1) (fun _ _ => 0)
    case atStart => exact ⟨rfl, rfl⟩
    case round =>
      obtain ⟨rfl, rfl⟩ := hrel
      by_cases hq : rn = 0
      · subst hq
        go_wp2_with fail
        go_ret
        exact ⟨[], _, p + 1, rfl, HX.out.1, by rw [HL0.out], by simp, by omega, by omega, HRX.out, HX.out.2⟩
      · have hpos : (0 : Int) < (rn : Int) := by omega
        go_wp2_with fail
        go_ret
        exact ⟨[], _, p + 1, rfl, HX.out.1, by rw [HL0.out], by simp, by omega, by omega, HRX.out, HX.out.2⟩
  · have HC := Lib.hid hcs
    clear hcs
    go_enter Try.func30, Try.ntmps30
    go_wp2_with (at_builtin; refine wpList_append_own _ rfl (.tmp 7) (.tmp 8) 26 rfl w.heap.size 3 iN (.int .i64 0) 1 8 Try.underlying26 HIN.out.1 HIN.out.2.1 HIN.out.2.2.1 HIN.out.2.2.2 rfl (by decide) _ 0 [] rfl HN0.out ⟨gv, 0, none⟩ l.length cap (l.map (Value.int .i64)) rfl (by simp) HC.out ?d2 ?d3 ?d4 ?d5 ?_)
    case d2 => intro u hu; obtain ⟨x, _, rfl⟩ := List.mem_map.1 hu; simp [Value.oneCell']
    case d3 => rw [HML.out]; omega
    case d4 => omega
    case d5 => simp
    intro v2 w3 hown hgr _
    have hge := own_ge HN0.out
    have hn3 : NumRow w3 w.heap.size v2 l := hown
    obtain ⟨a2, c2, hv2, _⟩ := hn3.at (by intro x hx; have := HB.out x hx; unfold i64ok; omega)
    subst hv2
    have HR3 := Lib.hid (HR0.out.grown hgr (fun k hk => by have := hge k hk; omega))
    have HO3 := Lib.hid (only_grown HO0.out hgr hge)
    have HN3 := Lib.hid hn3
    clear hown hgr hge hn3 HR0 HN0 HO0 HC
    go_wp2_with fail
    refine (pick_any _ g p 3 HR3.out (by omega) (by omega) (by omega)).mono ?_
    rintro e w4 ⟨r, rfl, h0, hr3, hrd, ho⟩
    obtain ⟨rn, rfl⟩ : ∃ rn : Nat, r = rn := ⟨r.toNat, by omega⟩
    have hrn : rn ≤ 3 := by have := hr3 (by omega); omega
    have HI := Lib.hid (show MoreI g (p + 1) l w (.slice a2 l.length c2) w4 from ⟨l, HN3.out.only ho hgl, rfl, HB.out, hrd, HO3.out.trans ho⟩)
    clear hrd ho HR3 HN3 HO3 hr3 h0
    go_wp2_with fail
    go_loopw [6] (fun i wr => ∃ q p' : Nat, i = .int .i64 q ∧ (q ≤ 3 ∧ p ≤ p') ∧ p' + 2 * q ≤ p + 7 ∧ MoreI g p' l w (.slice a2 l.length c2) wr) (fun i _ => (intOf i).toNat)
    case atStart => exact ⟨rn, p + 1, rfl, ⟨hrn, by omega⟩, by omega, HI.out⟩
    case round =>
      obtain ⟨q, p', rfl, ⟨hq3, hp1⟩, hpp, y, hny, hyl, hyb, hrd, ho⟩ := hrel
      have HN := Lib.hid hny
      have HYB := Lib.hid hyb
      have HYL := Lib.hid hyl
      have HRD := Lib.hid hrd
      have HO := Lib.hid ho
      have hws := ho.size
      clear hny hyl hyb hrd ho HI
      by_cases hq : q = 0
      · subst hq
        go_wp2_with fail
        go_ret
        exact ⟨y, _, p', rfl, HN.out, HYL.out, HYB.out, by omega, by omega, HRD.out, HO.out⟩
      have hpos : (0 : Int) < (q : Int) := by omega
      by_cases hl0 : l.length = 0
      · rw [hl0] at HN
        have HL0 := Lib.hid hl0
        rw [hl0]
        clear hl0
        go_wp2_with fail
        go_ret
        exact ⟨y, _, p', rfl, HN.out, HYL.out, HYB.out, by omega, by omega, HRD.out, HO.out⟩
      · have hlp : (0 : Int) < (l.length : Int) := by omega
        obtain ⟨g2, cap2, hv⟩ := own_some HN.out (by rw [HYL.out]; omega)
        simp only [Value.slice.injEq] at hv
        obtain ⟨rfl, hxx, rfl⟩ := hv
        clear hxx
        have HG2 := Lib.hid (own_ge HN.out g2 rfl)
        go_wp2_with fail
        refine (pick_any _ g p' l.length HRD.out (by omega) (by omega) (by omega)).mono ?_
        rintro e w5 ⟨r, rfl, h0, hr1, hrd, ho⟩
        have hrl := hr1 (by omega)
        obtain ⟨r1, rfl⟩ : ∃ rn : Nat, r = rn := ⟨r.toNat, by omega⟩
        have hws5 := ho.size
        have HN5 := Lib.hid (HN.out.only ho hgl)
        have HRD5 := Lib.hid hrd
        have HO5 := Lib.hid (HO.out.trans ho)
        clear hrd ho HN HRD HO hr1 h0
        go_wp2_with fail
        refine (pick_any _ g (p' + 1) 4 HRD5.out (by omega) (by omega) (by omega)).mono ?_
        rintro e w6 ⟨r, rfl, h0, hr1, hrd, ho⟩
        have hr4 := hr1 (by omega)
        have hn6 := HN5.out.only ho hgl
        have hb6 : ∃ z, w6.cell? ⟨g2, r1, none⟩ = some z := ⟨_, by
          have := World.ownsRow.cells hn6 (g := g2) rfl r1 (.int .i64 (y[r1]'(by rw [HYL.out]; omega))) (by rw [List.getElem?_map, List.getElem?_eq_getElem]; rfl)
          rwa [addr0] at this⟩
        obtain ⟨z, hz⟩ := hb6
        have hfz : w6.frozen? ⟨g2, r1, none⟩ = false := by
          obtain ⟨_, ⟨h1, _⟩ | ⟨g', cap', cur, h1, h2, h3, _⟩⟩ := hn6
          · simp at h1
          · simp only [Value.slice.injEq, Option.some.injEq, Addr.mk.injEq, and_true] at h1
            obtain ⟨rfl, _⟩ := h1
            exact Blk.frozen (w := w6) h3 r1
        have hws6 := ho.size
        have hn7 : NumRow (w6.setCell ⟨g2, r1, none⟩ (.int .i64 r)) w.heap.size (.slice (some ⟨g2, 0, none⟩) l.length c2) (y.set r1 r) := by
          have h : NumRow w6 w.heap.size (.slice (some ⟨g2, 0, none⟩) l.length c2) y := hn6
          exact h.set_ r1 r
        have HI7 := Lib.hid (show MoreI g (p' + 1 + 1) l w (.slice (some ⟨g2, 0, none⟩) l.length c2) (w6.setCell ⟨g2, r1, none⟩ (.int .i64 r)) from
          ⟨y.set r1 r, hn7, by rw [List.length_set]; exact HYL.out, fun x hx => by
            rcases List.mem_or_eq_of_mem_set hx with hx | rfl
            · exact HYB.out x hx
            · omega, hrd.keep (fun k hk => Below.heap_setCell _ _ _ _ (by have := HG2.out; simp; omega)), (HO5.out.trans ho).set (.inr HG2.out) _⟩)
        have hrlt : r1 < l.length := by omega
        clear hn6 hn7 hrd ho HN5 HRD5 HO5 hr1 HYB hws hws5 hws6
        obtain ⟨q', rfl⟩ : ∃ q', q = q' + 1 := ⟨q - 1, by omega⟩
        go_wp2_with fail
        go_roundw
        case rel => exact ⟨q', p' + 1 + 1, congrArg (Value.int .i64) (by omega), ⟨by omega, by omega⟩, by omega, HI7.out⟩
        case measure => simp [intOf]

/-- A trace and values of keys were drawn off a code. -/
def DrawnRV (w : World) (e : Ending) (w' : World) : Prop := ∃ (r : Tr) (v : Value) (y : List Int) (vy : Value), e = .returned (.tuple #[.agg #[.int .i64 r.k, v, .int .i64 r.v], vy]) ∧ FRow w' w.heap.size v r.u.length (pcl r.u) ∧ drT r ∧
  NumRow w' w.heap.size vy y ∧ y.length = 10 ∧ (∀ x ∈ y, 0 ≤ x ∧ x ≤ 97) ∧ Below w.heap.size w w'

set_option maxRecDepth 100000 in
set_option maxHeartbeats 4000000 in
theorem drawTraceHolds_any (w : World) (a : Option Addr) (n c : Nat) (h : CodeAt w a n c) : Calls Try.prog 8 #[.slice a n c] w (DrawnRV w) := by
  have HC := Lib.hid (h.alloc (.cells #[.int .i64 0, .slice none 0 0, .int .i64 0] 25))
  have HB0 := Lib.hid (Blk.new w 25 #[.int .i64 0, .slice none 0 0, .int .i64 0])
  have HX0 := Lib.hid ((Below.refl w.heap.size w).alloc (Nat.le_refl _) (.cells #[.int .i64 0, .slice none 0 0, .int .i64 0] 25))
  clear h
  go_enter Try.func8, Try.ntmps8
  go_wp2_with fail
  refine (open_any _ a n c HC.out).mono ?_
  rintro e w1 ⟨rfl, hrd, hb⟩
  simp only [World.size_alloc] at hrd hb
  have hsz1 := hb.size
  simp only [World.size_alloc] at hsz1
  have HR1 := Lib.hid hrd
  have HB1 := Lib.hid (HB0.out.below hb (by simp))
  have HX1 := Lib.hid (HX0.out.trans (hb.mono (by omega)))
  have hg1 := hrd.lt
  clear hrd hb HB0 HX0 HC
  go_wp2_with fail
  refine (trace_any w1 (w.heap.size + 1) 0 HR1.out (by omega)).mono ?_
  rintro e w2 ⟨r, v, p2, rfl, hfr, hk, hv, hu, hul, hp2, hp3, hrd, ho⟩
  obtain ⟨au, cu, rfl⟩ := own_shape' hfr
  have HDT := Lib.hid (show drT r from ⟨hk, hv, hu, hul⟩)
  have hs2 := ho.size
  have HUB := Lib.hid hu
  have hcu : cu ≤ 9223372036854775807 := (ownsRow_at hfr).2.1
  have hcul : r.u.length ≤ cu := (ownsRow_at hfr).1
  have HF2 := Lib.hid (FRow.below hfr ((Below.refl _ _).alloc (Nat.le_refl _) (.cells #[.int .i64 r.k, .slice au r.u.length cu, .int .i64 r.v] 25)))
  have HR2 := Lib.hid (hrd.alloc (.cells #[.int .i64 r.k, .slice au r.u.length cu, .int .i64 r.v] 25))
  have HB2 := Lib.hid ((HB1.out.only ho (by omega)).alloc (.cells #[.int .i64 r.k, .slice au r.u.length cu, .int .i64 r.v] 25))
  have HX2 := Lib.hid ((below_only HX1.out ho (by omega)).alloc (by omega) (.cells #[.int .i64 r.k, .slice au r.u.length cu, .int .i64 r.v] 25))
  have HT2 := Lib.hid (Blk.new w2 25 #[.int .i64 r.k, .slice au r.u.length cu, .int .i64 r.v])
  have HFL := Lib.hid (fun b (hb : (Value.slice au r.u.length cu).ownBlock = some b) => (World.ownsRow.lt hfr b hb))
  clear hfr hk hv hu hrd ho HR1 HB1 HX1
  obtain ⟨W2, hW2⟩ : ∃ W, W = w2.alloc (.cells #[.int .i64 r.k, .slice au r.u.length cu, .int .i64 r.v] 25) := ⟨_, rfl⟩
  have HWE := Lib.hid hW2
  have hsW : W2.heap.size = w2.heap.size + 1 := by rw [hW2]; simp
  have HSW := Lib.hid hsW
  rw [← hW2] at HF2 HR2 HB2 HX2 HT2
  obtain ⟨x0, x1, x2, -⟩ := HT2.out.three
  rw [hW2] at x0 x1 x2
  clear hW2 hsW
  go_wp2_with fail
  rw [← HWE.out]
  clear x0 x1 x2
  refine (l5Back_any W2 (fun _ => True) ⟨0, [], 0⟩ au cu (RwAt.nil hcu) (by intro p hp; cases hp)).mono ?_
  rintro e w3 ⟨vb, rfl, hn3, hb3⟩
  have hs3 := hb3.size
  have HF3 := Lib.hid (FRow.below HF2.out hb3)
  have HR3 := Lib.hid (HR2.out.below hb3)
  have HB3 := Lib.hid (HB2.out.below hb3 HB2.out.lt)
  have HX3 := Lib.hid (HX2.out.trans (hb3.mono HX2.out.size))
  have HT3 := Lib.hid (HT2.out.below hb3 HT2.out.lt)
  have HN3 := Lib.hid hn3
  clear hn3 hb3 HF2 HR2 HB2 HX2 HT2
  go_wp2_with fail
  refine (moreR_any w3 (w.heap.size + 1) p2 W2.heap.size vb (backF []) HR3.out (by omega) HN3.out (by intro x hx; rw [show backF [] = List.replicate 10 0 from rfl] at hx; rw [List.eq_of_mem_replicate hx]; omega) (by decide) (by have := HSW.out; omega)).mono ?_
  rintro e w4 ⟨y, vy, p4, rfl, hn4, hyl, hyb, hp4, hp5, hrd, ho⟩
  have hyl10 : y.length = 10 := by rw [hyl]; decide
  obtain ⟨ay, cy, rfl⟩ : ∃ ay cy, vy = .slice ay 10 cy := by
    obtain ⟨ay, cy, hv⟩ := own_shape' (show w4.ownsRow w3.heap.size 3 1 vy y.length (y.map (.int .i64)) from hn4)
    rw [hyl10] at hv
    exact ⟨ay, cy, hv⟩
  obtain ⟨gy, cy2, hvy⟩ := own_some hn4 (by rw [hyl10]; decide)
  simp only [Value.slice.injEq] at hvy
  obtain ⟨rfl, -, rfl⟩ := hvy
  have HGY := Lib.hid (own_ge hn4 gy rfl)
  have hs4 := ho.size
  have HF4 := Lib.hid (FRow.only HF3.out ho (by omega))
  have HB4 := Lib.hid (HB3.out.only ho (by omega))
  have HT4 := Lib.hid (HT3.out.only ho (by omega))
  have HX4 := Lib.hid (below_only HX3.out ho (by omega))
  have HN4 := Lib.hid hn4
  have HR4 := Lib.hid hrd
  have HYB := Lib.hid hyb
  have HYL := Lib.hid hyl10
  clear hn4 hyl hyb hrd ho HF3 HR3 HB3 HX3 HT3 HN3 hyl10
  obtain ⟨W4, hW4⟩ : ∃ W, W = w4 := ⟨_, rfl⟩
  subst hW4
  obtain ⟨b3, hb3⟩ : ∃ b, b = w3.heap.size := ⟨_, rfl⟩
  have HB3 := Lib.hid hb3
  rw [← hb3] at HN4 HGY hs4
  have hw3 : w2.heap.size + 1 ≤ b3 := by have := HSW.out; omega
  clear hb3
  have HEND := Lib.hid (show ∀ (wr : World) (z : List Int), FRow wr w1.heap.size (.slice au r.u.length cu) r.u.length (pcl r.u) → NumRow wr b3 (.slice (some ⟨gy, 0, none⟩) 10 cy) z → z.length = 10 → (∀ x ∈ z, 0 ≤ x ∧ x ≤ 97) → Below w.heap.size w wr →
      DrawnRV w (.returned (.tuple #[.agg #[.int .i64 r.k, .slice au r.u.length cu, .int .i64 r.v], .slice (some ⟨gy, 0, none⟩) 10 cy])) (((wr.setCell ⟨w.heap.size, 0, none⟩ (.int .i64 r.k)).setCell ⟨w.heap.size, 1, none⟩ (.slice au r.u.length cu)).setCell ⟨w.heap.size, 2, none⟩ (.int .i64 r.v)) from fun wr z hf hn hzl hzb hx => by
    have hfr : Fr (fun b => b = w.heap.size) wr wr := Fr.of_below (Below.refl _ _)
    have hfr3 := ((hfr.set' ⟨w.heap.size, 0, none⟩ rfl (.int .i64 r.k)).set' ⟨w.heap.size, 1, none⟩ rfl (.slice au r.u.length cu)).set' ⟨w.heap.size, 2, none⟩ rfl (.int .i64 r.v)
    exact ⟨r, _, z, _, rfl, ownsRow_low (ownsRow_fr hf hfr3 (fun b hb e => by have := (World.ownsRow.lt hf b hb).1; omega)) (by omega), HDT.out, ownsRow_low (ownsRow_fr hn hfr3 (fun b hb e => by have := (World.ownsRow.lt hn b hb).1; omega)) (by omega), hzl, hzb, ((hx.setCell (by simp) _).setCell (by simp) _).setCell (by simp) _⟩)
  go_wp2_with fail
  go_loopw [7] (fun i wr => ∃ (k p' : Nat) (z : List Int), k ≤ r.u.length ∧ i = .int .i64 k ∧ p' ≤ p4 + k ∧ RdAt wr (w.heap.size + 1) p' ∧ FRow wr w1.heap.size (.slice au r.u.length cu) r.u.length (pcl r.u) ∧ Blk wr w.heap.size 25 #[.int .i64 0, .slice none 0 0, .int .i64 0] ∧ Blk wr w2.heap.size 25 #[.int .i64 r.k, .slice au r.u.length cu, .int .i64 r.v] ∧ Below w.heap.size w wr ∧ NumRow wr b3 (.slice (some ⟨gy, 0, none⟩) 10 cy) z ∧ z.length = 10 ∧ (∀ x ∈ z, 0 ≤ x ∧ x ≤ 97) ∧ W4.heap.size ≤ wr.heap.size) (fun i _ => r.u.length - (intOf i).toNat)
  case atStart => exact ⟨0, p4, y, by omega, rfl, by omega, HR4.out, HF4.out, HB4.out, HT4.out, HX4.out, HN4.out, HYL.out, HYB.out, Nat.le_refl _⟩
  case round =>
    obtain ⟨k, p', z, hk, rfl, hpk, hrd, hf, hbk, ht, hx, hn, hzl, hzb, hsz⟩ := hrel
    have HR := Lib.hid hrd
    have HF := Lib.hid hf
    have HB := Lib.hid hbk
    have HT := Lib.hid ht
    have HX := Lib.hid hx
    have HN := Lib.hid hn
    have HZL := Lib.hid hzl
    have HZB := Lib.hid hzb
    obtain ⟨x0, x1, x2, -⟩ := ht.three
    clear hrd hf hbk ht hx hn hzl hzb
    by_cases hlt : k < r.u.length
    · have hlti : (k : Int) < (r.u.length : Int) := by omega
      go_wp2_with fail
      refine (pick_any _ (w.heap.size + 1) p' 2 HR.out (by omega) (by omega) (by omega)).mono ?_
      rintro e w5 ⟨q, rfl, q0, q1, hrd, ho⟩
      have HR5 := Lib.hid hrd
      have HF5 := Lib.hid (FRow.only HF.out ho (by omega))
      have HB5 := Lib.hid (HB.out.only ho (by omega))
      have HT5 := Lib.hid (HT.out.only ho (by omega))
      have HX5 := Lib.hid (below_only HX.out ho (by omega))
      have HN5 := Lib.hid (show NumRow w5 b3 (.slice (some ⟨gy, 0, none⟩) 10 cy) z from HN.out.only ho (by omega))
      have hs5 := ho.size
      clear hrd ho x0 x1 x2 HR HF HB HT HX HN q1
      by_cases hq0 : q = 0
      · subst hq0
        obtain ⟨x0, x1, x2, -⟩ := HT5.out.three
        obtain ⟨a9, c9, hsl, hprs⟩ := FRow.prs HF5.out (fun q hq => by have := HUB.out q hq; exact ⟨by unfold i64ok; omega, by unfold i64ok; omega⟩)
        simp only [Value.slice.injEq, true_and] at hsl
        obtain ⟨rfl, rfl⟩ := hsl
        obtain ⟨bo, oo, rfl, hbo, _, e0, e1, _, _⟩ := hprs.get (Below.refl _ _) hlt
        have hub := HUB.out r.u[k] (List.getElem_mem hlt)
        obtain ⟨pr, hpr⟩ : ∃ pr, pr = r.u[k] := ⟨_, rfl⟩
        rw [← hpr] at e0 e1 hub
        obtain ⟨pk, pv⟩ := pr
        simp only at e0 e1 hub
        obtain ⟨q, rfl⟩ : ∃ q : Nat, pk = q := ⟨pk.toNat, by omega⟩
        clear hpr hprs
        by_cases hq10 : q < 10
        · have hqi : (q : Int) < 10 := by omega
          have hq0 : (0 : Int) ≤ (q : Int) := by omega
          obtain ⟨c0, f0⟩ := HN5.out.cellX q (by rw [HZL.out]; exact hq10)
          obtain ⟨zz, hzz⟩ : ∃ zz, zz = z[q]'(by rw [HZL.out]; exact hq10) := ⟨_, rfl⟩
          rw [← hzz] at c0
          have hgy := HGY.out
          have hnS : NumRow (w5.setCell ⟨gy, q, none⟩ (.int .i64 pv)) b3 (.slice (some ⟨gy, 0, none⟩) 10 cy) (z.set q pv) := NumRow.set_ HN5.out q pv
          have hfS : Fr (fun b => b = gy) w5 (w5.setCell ⟨gy, q, none⟩ (.int .i64 pv)) := Fr.set' (D := fun b => b = gy) (Fr.of_below (Below.refl _ _)) ⟨gy, q, none⟩ rfl _
          have HN6 := Lib.hid (show NumRow (w5.setCell ⟨gy, q, none⟩ (.int .i64 pv)).drew b3 (.slice (some ⟨gy, 0, none⟩) 10 cy) (z.set q pv) from NumRow.drew hnS)
          have HF6 := Lib.hid (show FRow (w5.setCell ⟨gy, q, none⟩ (.int .i64 pv)).drew w1.heap.size (.slice (some ⟨bo, oo, none⟩) r.u.length cu) r.u.length (pcl r.u) from FRow.below (ownsRow_fr HF5.out hfS (fun b hb e => by have := (HFL.out b hb).2; omega)) (Below.refl _ _).drew)
          have HB6 := Lib.hid (Blk.drew (HB5.out.fr hfS (by omega)))
          have HT6 := Lib.hid (Blk.drew (HT5.out.fr hfS (by omega)))
          have HX6 := Lib.hid (Below.drew (Below.frD HX5.out hfS (fun b hb => by omega)))
          have HR6 := Lib.hid (HR5.out.keep (w' := (w5.setCell ⟨gy, q, none⟩ (.int .i64 pv)).drew) (fun k hk => Below.heap_setCell _ _ _ _ (by simp; omega)))
          have hs6 : W4.heap.size ≤ (w5.setCell ⟨gy, q, none⟩ (.int .i64 pv)).drew.heap.size := by show _ ≤ (w5.setCell ⟨gy, q, none⟩ (.int .i64 pv)).heap.size; simp [World.setCell]; omega
          have HS6 := Lib.hid hs6
          have HZ6 := Lib.hid (show (z.set q pv).length = 10 ∧ ∀ x ∈ z.set q pv, 0 ≤ x ∧ x ≤ 97 from ⟨by rw [List.length_set]; exact HZL.out, fun x hx => by
            rcases List.mem_or_eq_of_mem_set hx with hx | rfl
            · exact HZB.out x hx
            · omega⟩)
          clear hnS hfS hs6 hzz hub
          go_wp2_with fail
          go_still_tail 14, (by kernel_rfl)
          go_wp2_with fail
          go_roundw
          case rel => exact ⟨k + 1, p' + 1, z.set q pv, by omega, by go_num, by omega, HR6.out, HF6.out, HB6.out, HT6.out, HX6.out, HN6.out, HZ6.out.1, HZ6.out.2, HS6.out⟩
          case measure => simp [intOf]; omega
        · have hq10' : ¬ (q : Int) < 10 := by omega
          clear hub
          go_wp2_with fail
          go_roundw
          case rel => exact ⟨k + 1, p' + 1, z, by omega, by go_num, by omega, HR5.out, HF5.out, HB5.out, HT5.out, HX5.out, HN5.out, HZL.out, HZB.out, by omega⟩
          case measure => simp [intOf]; omega
      · obtain ⟨x0, x1, x2, -⟩ := HT5.out.three
        obtain ⟨y0, y1, y2, f0, f1, f2⟩ := HB5.out.three
        have hlt5 := HB5.out.lt
        have hne : (q == 0) = false := by simpa using hq0
        go_wp2_with fail
        refine bodyPost_ret (v := .tuple #[.agg #[.int .i64 r.k, .slice au r.u.length cu, .int .i64 r.v], .slice (some ⟨gy, 0, none⟩) 10 cy]) (by simp [results, Try.results8, go_sem, y0, y1, y2]) rfl ?_
        exact HEND.out w5 z HF5.out HN5.out HZL.out HZB.out HX5.out
    · have hlti : ¬ (k : Int) < (r.u.length : Int) := by omega
      obtain ⟨y0, y1, y2, f0, f1, f2⟩ := HB.out.three
      have hlt5 := HB.out.lt
      go_wp2_with fail
      refine bodyPost_ret (v := .tuple #[.agg #[.int .i64 r.k, .slice au r.u.length cu, .int .i64 r.v], .slice (some ⟨gy, 0, none⟩) 10 cy]) (by simp [results, Try.results8, go_sem, y0, y1, y2]) rfl ?_
      exact HEND.out wr z HF.out HN.out HZL.out HZB.out HX.out
end Go.Proofs.Ytjbggeeadodmpaa
