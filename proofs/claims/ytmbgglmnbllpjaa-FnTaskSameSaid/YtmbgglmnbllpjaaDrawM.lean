/- l91More; DrawTaskSame -/
import Derived.Test.YtmbgglmnbllpjaaDr1
import Derived.Test.YtmbgglmnbllpjaaBs2
import Derived.Laws.AppendOwnNone
namespace Go.Proofs.Ytmbgglmnbllpjaa
open Go.RowKit

/-- Other values drawn off a code, out of those given. -/
def MoreD (g : Nat) (l : List Int) (w : World) (e : Ending) (w' : World) : Prop :=
  ∃ (y : List Int) (v : Value) (_q : Nat), e = .returned v ∧ NumRow w' w.heap.size v y ∧ y.length = l.length ∧ (∀ x ∈ y, 0 ≤ x ∧ x ≤ 97) ∧ Only g w w'

/-- Where the loop of l91More stands. -/
def MoreI (g p : Nat) (l : List Int) (w : World) (v : Value) (wr : World) : Prop :=
  ∃ (y : List Int), NumRow wr w.heap.size v y ∧ y.length = l.length ∧ (∀ x ∈ y, 0 ≤ x ∧ x ≤ 97) ∧ RdAt wr g p ∧ Only g w wr

theorem row_cells {w : World} {base : Nat} {v : Value} {l : List Int} (h : NumRow w base v l) : v = .slice none 0 0 ∧ l = [] ∨ ∃ g cap, v = .slice (some ⟨g, 0, none⟩) l.length cap ∧ ∀ j u, (l.map (Value.int .i64))[j]? = some u → w.cell? ((⟨g, 0, none⟩ : Addr).add j) = some u := by
  have h' := h
  obtain ⟨_, ⟨rfl, h0⟩ | ⟨g, cap, cur, rfl, _⟩⟩ := h
  · exact .inl ⟨rfl, List.length_eq_zero_iff.1 h0⟩
  · exact .inr ⟨g, cap, rfl, World.ownsRow.cells h' rfl⟩

set_option maxHeartbeats 2000000 in
/-- The loop of l91More, and its end. -/
theorem more_any (w : World) (g p base : Nat) (v : Value) (l : List Int) (hr : RdAt w g p) (hp : p ≤ 990000) (hv : NumRow w base v l) (hb : ∀ x ∈ l, 0 ≤ x ∧ x ≤ 97) (hl : l.length ≤ 12) (_hg : g < base) :
    Calls Try.prog 70 #[.pointer (some ⟨g, 0, none⟩), v] w (MoreD g l w) := by
  obtain ⟨iN, ni, nz0, nz1, nz2⟩ := info_parts infoInt
  have HIN := Lib.hid (And.intro ni (And.intro nz0 (And.intro nz1 nz2)))
  have hml : maxLen = 9223372036854775807 := rfl
  have HML := Lib.hid hml
  have hgl := hr.lt
  have HR0 := Lib.hid (hr.alloc (.cells #[] 3))
  have HN0 := Lib.hid (rowN_new w)
  have HO0 := Lib.hid ((Only.refl g w).alloc (.cells #[] 3))
  have hb' := hb
  have HB := Lib.hid hb'
  have hcs := row_cells (hv.only (g := g) (HO0.out) (by omega))
  have HLB := Lib.hid hl
  clear ni nz0 nz1 nz2 hml hr hb hv hb'
  rcases hcs with ⟨rfl, hl0⟩ | ⟨gv, cap, rfl, hcs⟩
  · have HL0 := Lib.hid hl0
    clear hl0 hl
    go_enter Try.func70, Try.ntmps70
    go_wp2_with (at_builtin; refine wpList_append_own_none rfl (.tmp 7) (.tmp 8) 28 rfl w.heap.size 3 iN 1 Try.underlying28 HIN.out.1 _ 0 [] rfl HN0.out rfl ?_)
    refine (pick_any _ g p 3 HR0.out (by omega) (by omega) (by omega)).mono ?_
    rintro e w1 ⟨r, rfl, h0, _, hrd, ho⟩
    have HX := Lib.hid (And.intro (HN0.out.only ho hgl) (HO0.out.trans ho))
    obtain ⟨rn, rfl⟩ : ∃ rn : Nat, r = rn := ⟨r.toNat, by omega⟩
    clear hrd ho HR0 HN0 HO0
    go_wp2_with fail
    go_loopw [6] (fun i wr => i = .int .i64 rn ∧ wr = w1) (fun _ _ => 0)
    case atStart => exact ⟨rfl, rfl⟩
    case round =>
      obtain ⟨rfl, rfl⟩ := hrel
      by_cases hq : rn = 0
      · subst hq
        go_wp2_with fail
        go_ret
        exact ⟨[], _, 0, rfl, HX.out.1, by rw [HL0.out], by simp, HX.out.2⟩
      · have hpos : (0 : Int) < (rn : Int) := by omega
        go_wp2_with fail
        go_ret
        exact ⟨[], _, 0, rfl, HX.out.1, by rw [HL0.out], by simp, HX.out.2⟩
  · have HC := Lib.hid hcs
    clear hcs
    go_enter Try.func70, Try.ntmps70
    go_wp2_with (at_builtin; refine wpList_append_own _ rfl (.tmp 7) (.tmp 8) 28 rfl w.heap.size 3 iN (.int .i64 0) 1 8 Try.underlying28 HIN.out.1 HIN.out.2.1 HIN.out.2.2.1 HIN.out.2.2.2 rfl (by decide) _ 0 [] rfl HN0.out ⟨gv, 0, none⟩ l.length cap (l.map (Value.int .i64)) rfl (by simp) HC.out ?d2 ?d3 ?d4 ?d5 ?_)
    case d2 => intro u hu; obtain ⟨x, _, rfl⟩ := List.mem_map.1 hu; simp [Value.oneCell']
    case d3 => rw [HML.out]; omega
    case d4 => omega
    case d5 => simp
    intro v2 w3 hown hgr _
    have hge := own_ge HN0.out
    have hn3 : NumRow w3 w.heap.size v2 l := hown
    obtain ⟨a2, c2, hv2, _⟩ := hn3.at (by intro x hx; have := HB.out x hx; unfold i64ok; omega)
    subst hv2
    have HR3 := Lib.hid (HR0.out.grown hgr (fun k hk => by have := hge k hk; omega))
    have HO3 := Lib.hid (only_grown HO0.out hgr hge)
    have HN3 := Lib.hid hn3
    clear hown hgr hge hn3 HR0 HN0 HO0 HC
    go_wp2_with fail
    refine (pick_any _ g p 3 HR3.out (by omega) (by omega) (by omega)).mono ?_
    rintro e w4 ⟨r, rfl, h0, hr3, hrd, ho⟩
    obtain ⟨rn, rfl⟩ : ∃ rn : Nat, r = rn := ⟨r.toNat, by omega⟩
    have hrn : rn ≤ 3 := by have := hr3 (by omega); omega
    have HI := Lib.hid (show MoreI g (p + 1) l w (.slice a2 l.length c2) w4 from ⟨l, HN3.out.only ho hgl, rfl, HB.out, hrd, HO3.out.trans ho⟩)
    clear hrd ho HR3 HN3 HO3 hr3 h0
    go_wp2_with fail
    go_loopw [6] (fun i wr => ∃ q p' : Nat, i = .int .i64 q ∧ q ≤ 3 ∧ p' + 2 * q ≤ p + 7 ∧ MoreI g p' l w (.slice a2 l.length c2) wr) (fun i _ => (intOf i).toNat)
    case atStart => exact ⟨rn, p + 1, rfl, hrn, by omega, HI.out⟩
    case round =>
      obtain ⟨q, p', rfl, hq3, hpp, y, hny, hyl, hyb, hrd, ho⟩ := hrel
      have HN := Lib.hid hny
      have HYB := Lib.hid hyb
      have HYL := Lib.hid hyl
      have HRD := Lib.hid hrd
      have HO := Lib.hid ho
      have hws := ho.size
      clear hny hyl hyb hrd ho HI
      by_cases hq : q = 0
      · subst hq
        go_wp2_with fail
        go_ret
        exact ⟨y, _, 0, rfl, HN.out, HYL.out, HYB.out, HO.out⟩
      have hpos : (0 : Int) < (q : Int) := by omega
      by_cases hl0 : l.length = 0
      · rw [hl0] at HN
        have HL0 := Lib.hid hl0
        rw [hl0]
        clear hl0
        go_wp2_with fail
        go_ret
        exact ⟨y, _, 0, rfl, HN.out, HYL.out, HYB.out, HO.out⟩
      · have hlp : (0 : Int) < (l.length : Int) := by omega
        obtain ⟨g2, cap2, hv⟩ := own_some HN.out (by rw [HYL.out]; omega)
        simp only [Value.slice.injEq] at hv
        obtain ⟨rfl, hxx, rfl⟩ := hv
        clear hxx
        have HG2 := Lib.hid (own_ge HN.out g2 rfl)
        go_wp2_with fail
        refine (pick_any _ g p' l.length HRD.out (by omega) (by omega) (by omega)).mono ?_
        rintro e w5 ⟨r, rfl, h0, hr1, hrd, ho⟩
        have hrl := hr1 (by omega)
        obtain ⟨r1, rfl⟩ : ∃ rn : Nat, r = rn := ⟨r.toNat, by omega⟩
        have hws5 := ho.size
        have HN5 := Lib.hid (HN.out.only ho hgl)
        have HRD5 := Lib.hid hrd
        have HO5 := Lib.hid (HO.out.trans ho)
        clear hrd ho HN HRD HO hr1 h0
        go_wp2_with fail
        refine (pick_any _ g (p' + 1) 4 HRD5.out (by omega) (by omega) (by omega)).mono ?_
        rintro e w6 ⟨r, rfl, h0, hr1, hrd, ho⟩
        have hr4 := hr1 (by omega)
        have hn6 := HN5.out.only ho hgl
        have hb6 : ∃ z, w6.cell? ⟨g2, r1, none⟩ = some z := ⟨_, by
          have := World.ownsRow.cells hn6 (g := g2) rfl r1 (.int .i64 (y[r1]'(by rw [HYL.out]; omega))) (by rw [List.getElem?_map, List.getElem?_eq_getElem]; rfl)
          rwa [addr0] at this⟩
        obtain ⟨z, hz⟩ := hb6
        have hfz : w6.frozen? ⟨g2, r1, none⟩ = false := by
          obtain ⟨_, ⟨h1, _⟩ | ⟨g', cap', cur, h1, h2, h3, _⟩⟩ := hn6
          · simp at h1
          · simp only [Value.slice.injEq, Option.some.injEq, Addr.mk.injEq, and_true] at h1
            obtain ⟨rfl, _⟩ := h1
            exact Blk.frozen (w := w6) h3 r1
        have hws6 := ho.size
        have hn7 : NumRow (w6.setCell ⟨g2, r1, none⟩ (.int .i64 r)) w.heap.size (.slice (some ⟨g2, 0, none⟩) l.length c2) (y.set r1 r) := by
          have h : NumRow w6 w.heap.size (.slice (some ⟨g2, 0, none⟩) l.length c2) y := hn6
          exact h.set_ r1 r
        have HI7 := Lib.hid (show MoreI g (p' + 1 + 1) l w (.slice (some ⟨g2, 0, none⟩) l.length c2) (w6.setCell ⟨g2, r1, none⟩ (.int .i64 r)) from
          ⟨y.set r1 r, hn7, by rw [List.length_set]; exact HYL.out, fun x hx => by
            rcases List.mem_or_eq_of_mem_set hx with hx | rfl
            · exact HYB.out x hx
            · omega, hrd.keep (fun k hk => Below.heap_setCell _ _ _ _ (by have := HG2.out; simp; omega)), (HO5.out.trans ho).set (.inr HG2.out) _⟩)
        have hrlt : r1 < l.length := by omega
        clear hn6 hn7 hrd ho HN5 HRD5 HO5 hr1 HYB hws hws5 hws6
        obtain ⟨q', rfl⟩ : ∃ q', q = q' + 1 := ⟨q - 1, by omega⟩
        go_wp2_with fail
        go_roundw
        case rel => exact ⟨q', p' + 1 + 1, congrArg (Value.int .i64) (by omega), by omega, by omega, HI7.out⟩
        case measure => simp [intOf]

/-- A task and two lists of values drawn off a code. -/
def DrawnTVV (w : World) (e : Ending) (w' : World) : Prop := ∃ (t : T) (a : Option Addr) (c : Nat) (l y : List Int) (v vy : Value), e = .returned (.tuple #[.agg #[.int .i64 t.k, .int .i64 t.n, .slice a t.ps.length c], v, vy]) ∧ AtS w' (fun b => w.heap.size ≤ b ∧ b < w'.heap.size) t.ps a c ∧
  i64ok t.k ∧ i64ok t.n ∧ t.nodes ≤ 100 ∧ NumRow w' w.heap.size v l ∧ l.length ≤ 12 ∧ (∀ x ∈ l, 0 ≤ x ∧ x ≤ 97) ∧ NumRow w' w.heap.size vy y ∧ y.length ≤ 12 ∧ (∀ x ∈ y, 0 ≤ x ∧ x ≤ 97) ∧ Below w.heap.size w w'
set_option maxHeartbeats 1000000 in
theorem drawTaskSame_any (w : World) (a : Option Addr) (n c : Nat) (h : CodeAt w a n c) : Calls Try.prog 31 #[.slice a n c] w (DrawnTVV w) := by
  have HC := Lib.hid (h.alloc (.cells #[.int .i64 0, .int .i64 0, .slice none 0 0] 25))
  clear h
  go_enter Try.func31, Try.ntmps31
  go_wp2_with fail
  refine (open_any _ a n c HC.out).mono ?_
  rintro e w1 ⟨rfl, hrd, hb⟩
  have hsz1 := hb.size
  simp only [World.size_alloc] at hsz1 hrd hb
  have HK1 := Lib.hid ((Blk.new w 25 #[.int .i64 0, .int .i64 0, .slice none 0 0]).below hb (by omega))
  have HE1 := Lib.hid (And.intro hrd (below_of_box hb))
  have hlt1 : w.heap.size + 1 < w1.heap.size := hrd.lt
  clear hrd hb HC
  go_wp2_with fail
  refine (any_any _ (w.heap.size + 1) 0 ?_ (by omega)).mono ?_
  · exact HE1.out.1
  rintro e w2 ⟨t, a2, c2, p', rfl, hat, ok1, ok2, hm, hp0, hp1, hrd, ho⟩
  have hsz2 := ho.size
  have HK2 := Lib.hid ((HK1.out.only ho (by omega)).alloc (.cells #[.int .i64 t.k, .int .i64 t.n, .slice a2 t.ps.length c2] 25))
  have hB2 : Below w.heap.size w w2 := HE1.out.2.trans ⟨ho.os, ho.tape, ho.output, ho.size, fun k hk => ho.block k (by omega) (by intro e; injection e; omega)⟩
  have HX := Lib.hid (And.intro (hB2.alloc (by omega) (.cells #[.int .i64 t.k, .int .i64 t.n, .slice a2 t.ps.length c2] 25)) (And.intro ((hat.at.alloc (.cells #[.int .i64 t.k, .int .i64 t.n, .slice a2 t.ps.length c2] 25)).lim) (And.intro ok1 ok2)))
  have HT := Lib.hid (Blk.new w2 25 #[.int .i64 t.k, .int .i64 t.n, .slice a2 t.ps.length c2])
  have HR2 := Lib.hid (hrd.alloc (.cells #[.int .i64 t.k, .int .i64 t.n, .slice a2 t.ps.length c2] 25))
  clear hrd ho hB2 HK1 HE1 ok1 ok2 hat
  go_wp2_with fail
  refine (vals_any _ (w.heap.size + 1) p' HR2.out (by omega)).mono ?_
  rintro e w3 ⟨l, v, q, rfl, hn, hl, hlb, hq0, hq1, hrd, ho⟩
  have hsz3 := ho.size
  simp only [World.size_alloc] at hsz3 hn
  have hK3 := HK2.out.only ho (by omega)
  have hT3 := HT.out.only ho (by omega)
  have hB3 : Below w.heap.size w w3 := HX.out.1.trans ⟨ho.os, ho.tape, ho.output, ho.size, fun k hk => ho.block k (by simp; omega) (by intro e; injection e; omega)⟩
  have hA3 : AtS w3 (fun b => w.heap.size ≤ b ∧ b < w3.heap.size ∧ b ≠ w.heap.size ∧ b ≠ w.heap.size + 1) t.ps a2 c2 := HX.out.2.1.keep (fun b hb => by simp at hb; omega) (fun b hb hlb => ho.block b hlb (by intro e; injection e with e; simp at hb; omega))
  have H3 := Lib.hid (And.intro hB3 (And.intro hA3 hlb))
  have HV3 := Lib.hid hn
  have HK3 := Lib.hid hK3
  have HT3 := Lib.hid hT3
  have HR3 := Lib.hid hrd
  clear hn hlb hrd ho hK3 hT3 hB3 hA3 HK2 HT HR2
  go_wp2_with fail
  refine (more_any _ (w.heap.size + 1) q _ v l HR3.out (by omega) HV3.out H3.out.2.2 hl (by omega)).mono ?_
  rintro e w4 ⟨y, vy, q2, rfl, hny, hyl, hyb, ho⟩
  have HYL := Lib.hid hyl
  clear hyl
  have hsz4 := ho.size
  have hK4 := HK3.out.only ho (by omega)
  have hT4 := HT3.out.only ho (by omega)
  have hB4 : Below w.heap.size w w4 := H3.out.1.trans ⟨ho.os, ho.tape, ho.output, ho.size, fun k hk => ho.block k (by omega) (by intro e; injection e; omega)⟩
  have hA4 : AtS w4 (fun b => w.heap.size ≤ b ∧ b < w4.heap.size ∧ b ≠ w.heap.size) t.ps a2 c2 := H3.out.2.1.keep (fun b hb => by omega) (fun b hb hlb => ho.block b hlb (by intro e; injection e with e; omega))
  have hn4 := HV3.out.only ho (by omega)
  have H4 := Lib.hid (And.intro hB4 (And.intro hA4 (And.intro (ownsRow_low (b' := w.heap.size) hn4 (by omega)) (And.intro (ownsRow_low (b' := w.heap.size) hny (by omega)) hyb))))
  have HN4 := Lib.hid (own_ge hn4)
  have HM4 := Lib.hid (own_ge hny)
  have HK4 := Lib.hid hK4
  obtain ⟨x0, x1, x2, f0, f1, f2⟩ := hK4.three
  obtain ⟨y0, y1, y2, g0, g1, g2⟩ := hT4.three
  have hz4 : w.heap.size < w4.heap.size := by omega
  obtain ⟨a4, c4, hva, _⟩ := NumRow.at (show NumRow w4 _ v l from hn4) (by intro x hx; have := H3.out.2.2 x hx; unfold i64ok; omega)
  obtain ⟨a5, c5, hvb, _⟩ := NumRow.at (show NumRow w4 _ vy y from hny) (by intro x hx; have := hyb x hx; unfold i64ok; omega)
  subst hva hvb
  clear hn4 hny hyb ho hK4 hT4 hB4 hA4 HK3 HT3 HR3 HV3
  go_wp2_with fail
  have hb5 := ((HK4.out.set_ 0 (.int .i64 t.k)).set_ 1 (.int .i64 t.n)).set_ 2 (.slice a2 t.ps.length c2)
  obtain ⟨z0, z1, z2, _, _, _⟩ := (show Blk _ w.heap.size 25 #[.int .i64 t.k, .int .i64 t.n, .slice a2 t.ps.length c2] from hb5).three
  refine bodyPost_ret (v := .tuple #[.agg #[.int .i64 t.k, .int .i64 t.n, .slice a2 t.ps.length c2], .slice a4 l.length c4, .slice a5 y.length c5]) (by simp only [results, Try.results31]; simp [go_sem, z0, z1, z2]) rfl ?_
  have hne : (Value.slice a4 l.length c4).ownBlock ≠ some w.heap.size := fun e => by have := HN4.out _ e; omega
  have hnf : (Value.slice a5 y.length c5).ownBlock ≠ some w.heap.size := fun e => by have := HM4.out _ e; omega
  refine ⟨t, a2, c2, l, y, _, _, rfl, ?_, HX.out.2.2.1, HX.out.2.2.2, hm, ?_, hl, H3.out.2.2, ?_, by have := HYL.out; omega, H4.out.2.2.2.2, ?_⟩
  · exact (((H4.out.2.1.setCell (by intro b hb; simp; omega) _).setCell (by intro b hb; simp; omega) _).setCell (by intro b hb; simp; omega) _).weaken (by intro b hb; simp; omega)
  · exact ownsRow_setCell_other (ownsRow_setCell_other (ownsRow_setCell_other H4.out.2.2.1 (a := ⟨w.heap.size, 0, none⟩) hne _) (a := ⟨w.heap.size, 1, none⟩) hne _) (a := ⟨w.heap.size, 2, none⟩) hne _
  · exact ownsRow_setCell_other (ownsRow_setCell_other (ownsRow_setCell_other H4.out.2.2.2.1 (a := ⟨w.heap.size, 0, none⟩) hnf _) (a := ⟨w.heap.size, 1, none⟩) hnf _) (a := ⟨w.heap.size, 2, none⟩) hnf _
  · exact ((H4.out.1.setCell (Nat.le_refl _) _).setCell (Nat.le_refl _) _).setCell (Nat.le_refl _) _
end Go.Proofs.Ytmbgglmnbllpjaa
