/- l91More; DrawTaskSame -/
import Derived.Test.YtjbggeeadodmpaaDr1
import Derived.Test.YtjbggeeadodmpaaBs2
import Derived.Laws.AppendOwnNone
namespace Go.Proofs.Ytjbggeeadodmpaa
open Go.RowKit

/-- Other values drawn off a code, out of those given. -/
def MoreD (g : Nat) (l : List Int) (w : World) (e : Ending) (w' : World) : Prop :=
  ∃ (y : List Int) (v : Value) (_q : Nat), e = .returned v ∧ NumRow w' w.heap.size v y ∧ y.length = l.length ∧ (∀ x ∈ y, 0 ≤ x ∧ x ≤ 97) ∧ Only g w w'

/-- Where the loop of l91More stands. -/
def MoreI (g p : Nat) (l : List Int) (w : World) (v : Value) (wr : World) : Prop :=
  ∃ (y : List Int), NumRow wr w.heap.size v y ∧ y.length = l.length ∧ (∀ x ∈ y, 0 ≤ x ∧ x ≤ 97) ∧ RdAt wr g p ∧ Only g w wr

theorem row_cells {w : World} {base : Nat} {v : Value} {l : List Int} (h : NumRow w base v l) : v = .slice none 0 0 ∧ l = [] ∨ ∃ g cap, v = .slice (some ⟨g, 0, none⟩) l.length cap ∧ ∀ j u, (l.map (Value.int .i64))[j]? = some u → w.cell? ((⟨g, 0, none⟩ : Addr).add j) = some u := by
  have h' := h
  obtain ⟨_, ⟨rfl, h0⟩ | ⟨g, cap, cur, rfl, _⟩⟩ := h
  · exact .inl ⟨rfl, List.length_eq_zero_iff.1 h0⟩
  · exact .inr ⟨g, cap, rfl, World.ownsRow.cells h' rfl⟩

set_option maxHeartbeats 2000000 in
/-- The loop of l91More, and its end. -/
theorem more_any (w : World) (g p base : Nat) (v : Value) (l : List Int) (hr : RdAt w g p) (hp : p ≤ 990000) (hv : NumRow w base v l) (hb : ∀ x ∈ l, 0 ≤ x ∧ x ≤ 97) (hl : l.length ≤ 12) (_hg : g < base) :
    Calls Try.prog 30 #[.pointer (some ⟨g, 0, none⟩), v] w (MoreD g l w) := by
  obtain ⟨iN, ni, nz0, nz1, nz2⟩ := info_parts infoInt
  have HIN := Lib.hid (And.intro ni (And.intro nz0 (And.intro nz1 nz2)))
  have hml : maxLen = 9223372036854775807 := rfl
  have HML := Lib.hid hml
  have hgl := hr.lt
  have HR0 := Lib.hid (hr.alloc (.cells #[] 3))
  have HN0 := Lib.hid (rowN_new w)
  have HO0 := Lib.hid ((Only.refl g w).alloc (.cells #[] 3))
  have hb' := hb
  have HB := Lib.hid hb'
  have hcs := row_cells (hv.only (g := g) (HO0.out) (by omega))
  have HLB := Lib.hid hl
  clear ni nz0 nz1 nz2 hml hr hb hv hb'
  rcases hcs with ⟨rfl, hl0⟩ | ⟨gv, cap, rfl, hcs⟩
  · have HL0 := Lib.hid hl0
    clear hl0 hl
    go_enter Try.func30, Try.ntmps30
    go_wp2_with (at_builtin; refine wpList_append_own_none rfl (.tmp 7) (.tmp 8) 26 rfl w.heap.size 3 iN 1 Try.underlying26 HIN.out.1 _ 0 [] rfl HN0.out rfl ?_)
    refine (pick_any _ g p 3 HR0.out (by omega) (by omega) (by omega)).mono ?_
    rintro e w1 ⟨r, rfl, h0, _, hrd, ho⟩
    have HX := Lib.hid (And.intro (HN0.out.only ho hgl) (HO0.out.trans ho))
    obtain ⟨rn, rfl⟩ : ∃ rn : Nat, r = rn := ⟨r.toNat, by omega⟩
    clear hrd ho HR0 HN0 HO0
    go_wp2_with fail
    go_loopw [6] (fun i wr => i = .int .i64 rn ∧ wr = w1) (fun _ _ => 0)
    case atStart => exact ⟨rfl, rfl⟩
    case round =>
      obtain ⟨rfl, rfl⟩ := hrel
      by_cases hq : rn = 0
      · subst hq
        go_wp2_with fail
        go_ret
        exact ⟨[], _, 0, rfl, HX.out.1, by rw [HL0.out], by simp, HX.out.2⟩
      · have hpos : (0 : Int) < (rn : Int) := by omega
        go_wp2_with fail
        go_ret
        exact ⟨[], _, 0, rfl, HX.out.1, by rw [HL0.out], by simp, HX.out.2⟩
  · have HC := Lib.hid hcs
    clear hcs
    go_enter Try.func30, Try.ntmps30
    go_wp2_with (at_builtin; refine wpList_append_own _ rfl (.tmp 7) (.tmp 8) 26 rfl w.heap.size 3 iN (.int .i64 0) 1 8 Try.underlying26 HIN.out.1 HIN.out.2.1 HIN.out.2.2.1 HIN.out.2.2.2 rfl (by decide) _ 0 [] rfl HN0.out ⟨gv, 0, none⟩ l.length cap (l.map (Value.int .i64)) rfl (by simp) HC.out ?d2 ?d3 ?d4 ?d5 ?_)
    case d2 => intro u hu; obtain ⟨x, _, rfl⟩ := List.mem_map.1 hu; simp [Value.oneCell']
    case d3 => rw [HML.out]; omega
    case d4 => omega
    case d5 => simp
    intro v2 w3 hown hgr _
    have hge := own_ge HN0.out
    have hn3 : NumRow w3 w.heap.size v2 l := hown
    obtain ⟨a2, c2, hv2, _⟩ := hn3.at (by intro x hx; have := HB.out x hx; unfold i64ok; omega)
    subst hv2
    have HR3 := Lib.hid (HR0.out.grown hgr (fun k hk => by have := hge k hk; omega))
    have HO3 := Lib.hid (only_grown HO0.out hgr hge)
    have HN3 := Lib.hid hn3
    clear hown hgr hge hn3 HR0 HN0 HO0 HC
    go_wp2_with fail
    refine (pick_any _ g p 3 HR3.out (by omega) (by omega) (by omega)).mono ?_
    rintro e w4 ⟨r, rfl, h0, hr3, hrd, ho⟩
    obtain ⟨rn, rfl⟩ : ∃ rn : Nat, r = rn := ⟨r.toNat, by omega⟩
    have hrn : rn ≤ 3 := by have := hr3 (by omega); omega
    have HI := Lib.hid (show MoreI g (p + 1) l w (.slice a2 l.length c2) w4 from ⟨l, HN3.out.only ho hgl, rfl, HB.out, hrd, HO3.out.trans ho⟩)
    clear hrd ho HR3 HN3 HO3 hr3 h0
    go_wp2_with fail
    go_loopw [6] (fun i wr => ∃ q p' : Nat, i = .int .i64 q ∧ q ≤ 3 ∧ p' + 2 * q ≤ p + 7 ∧ MoreI g p' l w (.slice a2 l.length c2) wr) (fun i _ => (intOf i).toNat)
    case atStart => exact ⟨rn, p + 1, rfl, hrn, by omega, HI.out⟩
    case round =>
      obtain ⟨q, p', rfl, hq3, hpp, y, hny, hyl, hyb, hrd, ho⟩ := hrel
      have HN := Lib.hid hny
      have HYB := Lib.hid hyb
      have HYL := Lib.hid hyl
      have HRD := Lib.hid hrd
      have HO := Lib.hid ho
      have hws := ho.size
      clear hny hyl hyb hrd ho HI
      by_cases hq : q = 0
      · subst hq
        go_wp2_with fail
        go_ret
        exact ⟨y, _, 0, rfl, HN.out, HYL.out, HYB.out, HO.out⟩
      have hpos : (0 : Int) < (q : Int) := by omega
      by_cases hl0 : l.length = 0
      · rw [hl0] at HN
        have HL0 := Lib.hid hl0
        rw [hl0]
        clear hl0
        go_wp2_with fail
        go_ret
        exact ⟨y, _, 0, rfl, HN.out, HYL.out, HYB.out, HO.out⟩
      · have hlp : (0 : Int) < (l.length : Int) := by omega
        obtain ⟨g2, cap2, hv⟩ := own_some HN.out (by rw [HYL.out]; omega)
        simp only [Value.slice.injEq] at hv
        obtain ⟨rfl, hxx, rfl⟩ := hv
        clear hxx
        have HG2 := Lib.hid (own_ge HN.out g2 rfl)
        go_wp2_with fail
        refine (pick_any _ g p' l.length HRD.out (by omega) (by omega) (by omega)).mono ?_
        rintro e w5 ⟨r, rfl, h0, hr1, hrd, ho⟩
        have hrl := hr1 (by omega)
        obtain ⟨r1, rfl⟩ : ∃ rn : Nat, r = rn := ⟨r.toNat, by omega⟩
        have hws5 := ho.size
        have HN5 := Lib.hid (HN.out.only ho hgl)
        have HRD5 := Lib.hid hrd
        have HO5 := Lib.hid (HO.out.trans ho)
        clear hrd ho HN HRD HO hr1 h0
        go_wp2_with fail
        refine (pick_any _ g (p' + 1) 4 HRD5.out (by omega) (by omega) (by omega)).mono ?_
        rintro e w6 ⟨r, rfl, h0, hr1, hrd, ho⟩
        have hr4 := hr1 (by omega)
        have hn6 := HN5.out.only ho hgl
        have hb6 : ∃ z, w6.cell? ⟨g2, r1, none⟩ = some z := ⟨_, by
          have := World.ownsRow.cells hn6 (g := g2) rfl r1 (.int .i64 (y[r1]'(by rw [HYL.out]; omega))) (by rw [List.getElem?_map, List.getElem?_eq_getElem]; rfl)
          rwa [addr0] at this⟩
        obtain ⟨z, hz⟩ := hb6
        have hfz : w6.frozen? ⟨g2, r1, none⟩ = false := by
          obtain ⟨_, ⟨h1, _⟩ | ⟨g', cap', cur, h1, h2, h3, _⟩⟩ := hn6
          · simp at h1
          · simp only [Value.slice.injEq, Option.some.injEq, Addr.mk.injEq, and_true] at h1
            obtain ⟨rfl, _⟩ := h1
            exact Blk.frozen (w := w6) h3 r1
        have hws6 := ho.size
        have hn7 : NumRow (w6.setCell ⟨g2, r1, none⟩ (.int .i64 r)) w.heap.size (.slice (some ⟨g2, 0, none⟩) l.length c2) (y.set r1 r) := by
          have h : NumRow w6 w.heap.size (.slice (some ⟨g2, 0, none⟩) l.length c2) y := hn6
          exact h.set_ r1 r
        have HI7 := Lib.hid (show MoreI g (p' + 1 + 1) l w (.slice (some ⟨g2, 0, none⟩) l.length c2) (w6.setCell ⟨g2, r1, none⟩ (.int .i64 r)) from
          ⟨y.set r1 r, hn7, by rw [List.length_set]; exact HYL.out, fun x hx => by
            rcases List.mem_or_eq_of_mem_set hx with hx | rfl
            · exact HYB.out x hx
            · omega, hrd.keep (fun k hk => Below.heap_setCell _ _ _ _ (by have := HG2.out; simp; omega)), (HO5.out.trans ho).set (.inr HG2.out) _⟩)
        have hrlt : r1 < l.length := by omega
        clear hn6 hn7 hrd ho HN5 HRD5 HO5 hr1 HYB hws hws5 hws6
        obtain ⟨q', rfl⟩ : ∃ q', q = q' + 1 := ⟨q - 1, by omega⟩
        go_wp2_with fail
        go_roundw
        case rel => exact ⟨q', p' + 1 + 1, congrArg (Value.int .i64) (by omega), by omega, by omega, HI7.out⟩
        case measure => simp [intOf]

/-- A task and two lists of values drawn off a code. -/
def DrawnTVV (w : World) (e : Ending) (w' : World) : Prop := ∃ (t : T) (a : Option Addr) (c : Nat) (l y : List Int) (v vy : Value), e = .returned (.tuple #[.agg #[.int .i64 t.k, .int .i64 t.n, .slice a t.ps.length c], v, vy]) ∧ AtS w' (fun b => w.heap.size ≤ b ∧ b < w'.heap.size) t.ps a c ∧
  i64ok t.k ∧ i64ok t.n ∧ t.nodes ≤ 100 ∧ NumRow w' w.heap.size v l ∧ l.length ≤ 12 ∧ (∀ x ∈ l, 0 ≤ x ∧ x ≤ 97) ∧ NumRow w' w.heap.size vy y ∧ y.length ≤ 12 ∧ (∀ x ∈ y, 0 ≤ x ∧ x ≤ 97) ∧ Below w.heap.size w w'
end Go.Proofs.Ytjbggeeadodmpaa
