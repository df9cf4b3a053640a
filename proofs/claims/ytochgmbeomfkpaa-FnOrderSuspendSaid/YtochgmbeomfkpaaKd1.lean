/- several texts in one: KeysD, DrawOrd -/
import Derived.Test.YtochgmbeomfkpaaInputs
import Derived.Test.YtochgmbeomfkpaaStepN
import Derived.Deep.RegionLaw
import Derived.Test.YtochgmbeomfkpaaSd1
import Derived.Test.YtochgmbeomfkpaaDr1
/- l91Keys -/
namespace Go.Proofs.Ytochgmbeomfkpaa
open Go.RowKit

theorem NumRow.al' {w : World} {b : Nat} {v : Value} {l : List Int} (h : NumRow w b v l) (o : Obj) : NumRow (w.alloc o) b v l := World.ownsRow.alloc h o
set_option maxRecDepth 100000 in
set_option maxHeartbeats 3000000 in
theorem keysD_any (w : World) (g p : Nat) (a : Option Addr) (n c : Nat) (b' : Option Addr) (n' c' : Nat) (hr : RdAt w g p) (hp : p ≤ 990000) (hn8 : n ≤ 8) : Calls Try.prog 44 #[.pointer (some ⟨g, 0, none⟩), .agg #[.slice a n c, .slice b' n' c']] w (InpD g p w) := by
  obtain ⟨iN, ni, nz0, nz1, nz2⟩ := info_parts infoInt
  have HIN := Lib.hid (And.intro ni (And.intro nz0 (And.intro nz1 nz2)))
  have hml : maxLen = 9223372036854775807 := rfl
  have HML := Lib.hid hml
  have hgl := hr.lt
  have hgn : w.heap.size ≠ g := by omega
  obtain ⟨ts, hts⟩ : ∃ v, v = Value.slice b' n' c' := ⟨_, rfl⟩
  have HR0 := Lib.hid ((hr.alloc (.cells #[.slice a n c, .slice b' n' c'] 32)).alloc (.cells #[] 3))
  have hn0 := rowN_new (w.alloc (.cells #[.slice a n c, .slice b' n' c'] 32))
  simp only [World.size_alloc] at hn0
  have HN0 := Lib.hid hn0
  have HO0 := Lib.hid (((Only.refl g w).alloc (.cells #[.slice a n c, .slice b' n' c'] 32)).alloc (.cells #[] 3))
  have hk0 := (Blk.new w 32 #[.slice a n c, .slice b' n' c']).alloc (.cells #[] 3)
  have HK0 := Lib.hid hk0
  have HTS := Lib.hid hts
  clear ni nz0 nz1 nz2 hml hr hn0 hk0 hts
  go_enter Try.func44, Try.ntmps44
  go_wp2_with fail
  refine (pick_any _ g p 3 HR0.out (by omega) (by omega) (by omega)).mono ?_
  rintro e w1 ⟨r0, rfl, h0, h1, hrd, ho⟩
  have hr03 := h1 (by omega)
  have hs1 := ho.size
  simp only [World.size_alloc] at hs1
  have HN1 := Lib.hid (HN0.out.only ho (by omega))
  have HR1 := Lib.hid hrd
  have HO1 := Lib.hid (HO0.out.trans ho)
  have hk1 := HK0.out.only ho hgn
  rw [← HTS.out] at hk1
  have HK1 := Lib.hid hk1
  clear h1 hrd ho hk1 HN0 HR0 HO0 HK0
  obtain ⟨rn, rfl⟩ : ∃ rn : Nat, r0 = rn := ⟨r0.toNat, by omega⟩
  go_wp2_with fail
  go_loopw [5, 6] (fun v k wr => ∃ (l : List Int) (j q : Nat), k = .int .i64 j ∧ l.length + j ≤ 3 ∧ NumRow wr (w.heap.size + 1) v l ∧ (∀ x ∈ l, -1 ≤ x ∧ x ≤ 97) ∧ RdAt wr g q ∧ (p ≤ q ∧ q ≤ p + 1 + 2 * l.length) ∧ Only g w wr ∧ Blk wr w.heap.size 32 #[.slice a n c, ts]) (fun _ k _ => (intOf k).toNat)
  case atStart => exact ⟨[], rn + 1, _, by congr 1; omega, by simp; omega, HN1.out, by simp, HR1.out, by simp, HO1.out, HK1.out⟩
  case round =>
    obtain ⟨l, j, q, rfl, hlj, hnr, hb, hrd, hq, ho, hk⟩ := hrel
    obtain ⟨av, cv, rfl, _⟩ := ElRow.at (f := Value.int .i64) (e := 3) hnr
    have HN := Lib.hid hnr
    have HB := Lib.hid hb
    have HR := Lib.hid hrd
    have HO := Lib.hid ho
    have HK := Lib.hid hk
    have hws : w.heap.size < wr.heap.size := hk.lt
    have hgr : g < wr.heap.size := hrd.lt
    obtain ⟨x0, x1, _, _⟩ := hk.two
    clear hnr hb hrd ho hk HN1 HR1 HO1 HK1
    have hcase : (0 < j ∧ 0 < n) ∨ j = 0 ∨ (0 < j ∧ n = 0) := by omega
    rcases hcase with ⟨hj, hn⟩ | hj | ⟨hj, hn⟩
    · have d1 : decide ((0 : Int) < (j : Int)) = true := decide_eq_true (by omega)
      have d2 : decide ((0 : Int) < (n : Int)) = true := decide_eq_true (by omega)
      have hnm : (n : Int) - 1 = ((n - 1 : Nat) : Int) := by omega
      have hp9 : q ≤ 990007 := by omega
      have HPICK := Lib.hid (pick_any wr.drew g q (n : Int) (HR.out.keep (fun _ _ => rfl)) (by omega) (by omega) (by omega))
      have HKD := Lib.hid (show ∀ w4, Only g wr.drew w4 → Blk w4 w.heap.size 32 #[.slice a n c, ts] from fun w4 ho => Blk.only (w := wr.drew) HK.out ho hgn)
      have HND := Lib.hid (show ∀ w4, Only g wr.drew w4 → NumRow w4 (w.heap.size + 1) (.slice av l.length cv) l from fun w4 ho => NumRow.only (w := wr.drew) HN.out ho (by omega))
      go_wp2_with fail
      go_region_law (first
        | (go_simp
           go_at_call 70
           refine HPICK.out.mono ?_
           rintro e w4 ⟨r, rfl, h0, h1, hrd, ho⟩
           obtain ⟨z0, z1, _, _⟩ := (HKD.out w4 ho).two
           have hrn := h1 (by omega)
           have hs4 : wr.heap.size ≤ w4.heap.size := ho.size
           have hN4 := HND.out w4 ho)
        | ((refine step_append_num rfl (.tmp 21) (.tmp 33) rfl (w.heap.size + 1) (Value.slice av l.length cv) l rfl (NumRow.al' hN4 _) ⟨w4.heap.size, 0, none⟩ _ rfl (news1 _ _ _ 0 _ rfl) (by omega) (by simp; omega) ?_)
           intro v7 w7 hown hgr hnew))
      all_goals
        have e1 : IntKind.i64.wrap ((n - 1 : Nat) : Int) = ((n - 1 : Nat) : Int) := IntWalk.i64_in _ ⟨by omega, by omega⟩
        have e2 : r.tdiv 2 = r / 2 := Int.tdiv_eq_ediv_of_nonneg h0
        have e3 : IntKind.i64.wrap (r / 2) = r / 2 := IntWalk.i64_in _ ⟨by omega, by omega⟩
        have e4 : IntKind.i64.wrap (((n - 1 : Nat) : Int) - r / 2) = ((n - 1 : Nat) : Int) - r / 2 := IntWalk.i64_in _ ⟨by omega, by omega⟩
        have hX : IntKind.i64.wrap (IntKind.i64.wrap ((n - 1 : Nat) : Int) - IntKind.i64.wrap (r.tdiv 2)) = ((n - 1 : Nat) : Int) - r / 2 := by rw [e2, e1, e3, e4]
        rw [hX] at hown hgr ⊢
        obtain ⟨X, hXX⟩ : ∃ X, X = ((n - 1 : Nat) : Int) - r / 2 := ⟨_, rfl⟩
        rw [← hXX] at hown hgr ⊢
        have hXb : -1 ≤ X ∧ X ≤ 97 := by omega
        have hge := own_ge hN4
        obtain ⟨a7, c7, rfl, _⟩ := ElRow.at (f := Value.int .i64) (e := 3) hown
        have hR7 := (hrd.alloc (.cells #[.int .i64 X] 3)).grown hgr (fun k hk => by have := hge k hk; omega)
        have hO7 := only_grown (((HO.out.drewN 1).trans ho).alloc (.cells #[.int .i64 X] 3)) hgr (fun k hk => by have := hge k hk; omega)
        have hK7 : Blk w7 w.heap.size 32 #[.slice a n c, ts] := ((HKD.out w4 ho).alloc (.cells #[.int .i64 X] 3)).fr' (grownBy_fr hgr) (fun hd => by have := hge _ hd; omega)
        have H7 := Lib.hid (And.intro hown (And.intro hR7 (And.intro hO7 hK7)))
        have hll : (l ++ [X]).length = l.length + 1 := by simp
        rw [hll] at H7 ⊢
        clear e1 e2 e3 e4 hX hXX hge hR7 hO7 hK7 hown hgr hnew hN4 hrd ho z0 z1 x0 x1 hll HN HR HO HK HPICK HKD HND h1
        go_wp2_with fail
        go_roundw
        case rel =>
          refine ⟨l ++ [X], j - 1, _, by congr 1; omega, by rw [List.length_append, List.length_singleton]; omega, H7.out.1, ?_, H7.out.2.1, by rw [List.length_append, List.length_singleton]; omega, H7.out.2.2.1, H7.out.2.2.2⟩
          intro y hy
          rcases List.mem_append.1 hy with hy | hy
          · exact HB.out y hy
          · rw [List.mem_singleton.1 hy]; exact hXb
        case measure => simp [intOf]; omega
    · subst hj
      have HLN := Lib.hid (show l.length ≤ 3 by omega)
      go_wp2_with fail
      refine (pick_any _ g _ 25 HR.out (by omega) (by omega) (by omega)).mono ?_
      rintro e w4 ⟨r, rfl, h0, h1, hrd, ho⟩
      have hs4 := ho.size
      have HN4 := Lib.hid (HN.out.only ho (by omega))
      have HR4 := Lib.hid hrd
      have HO4 := Lib.hid (HO.out.trans ho)
      clear h1 hrd ho HN HR HO HK x0 x1
      by_cases hr0 : r = 0
      · subst hr0
        go_wp2_with fail
        refine (num_any _ g (q + 1) w4.heap.size 3 (-1) (10) (fun i => if i = 0 then -1 else if i = 1 then 10 else 9) (HR4.out.alloc _) (by omega) (by omega) (by omega) (by omega) ?_).mono ?_
        · intro i hi
          have hi' : i = 0 ∨ i = 1 ∨ i = 2 := by omega
          rcases hi' with rfl | rfl | rfl <;> (rw [World.cell?_alloc_new]; simp)
        rintro e w6 ⟨r6, p6, rfl, hv0, hv1, hp2, hp3, hrd, ho⟩
        have hs6 := ho.size
        simp only [World.size_alloc] at hs6
        have HN6 := Lib.hid (NumRow.only (World.ownsRow.alloc HN4.out _) ho (by omega))
        have HR6 := Lib.hid hrd
        have HO6 := Lib.hid ((HO4.out.alloc _).trans ho)
        have HWS := Lib.hid (show w.heap.size + 1 ≤ w6.heap.size by omega)
        clear hrd ho HN4 HR4 HO4
        go_wp2_with (at_builtin; refine wpList_append_row _ rfl (.tmp 38) (.tmp 42) 26 rfl (w.heap.size + 1) 3 iN (.int .i64 0) 1 8 Try.underlying26 HIN.out.1 HIN.out.2.1 HIN.out.2.2.1 HIN.out.2.2.2 rfl (by decide) _ l.length (l.map (Value.int .i64)) rfl (World.ownsRow.alloc HN6.out _) ⟨w6.heap.size, 0, none⟩ 1 1 [.int .i64 r6] rfl rfl ?ar1 ?ar2 (by decide) ?ar3 ?ar4 ?ar5 ?_)
        case ar1 => exact news1 _ _ _
        case ar2 => simp [Value.oneCell']
        case ar3 => rw [HML.out]; omega
        case ar4 => omega
        case ar5 => have := HWS.out; simp; omega
        intro v7 w7 hown hgr _
        have hge := own_ge HN6.out
        have hN7 : NumRow w7 (w.heap.size + 1) v7 (l ++ [r6]) := by
          unfold NumRow
          rw [List.map_append, show (l ++ [(r6 : Int)]).length = l.length + 1 by simp]
          exact hown
        obtain ⟨a7, c7, rfl, _⟩ := ElRow.at (f := Value.int .i64) (e := 3) hN7
        have hR7 := (HR6.out.alloc (.cells #[.int .i64 r6] 3)).grown hgr (fun k hk => by have := hge k hk; omega)
        have hO7 := only_grown (HO6.out.alloc (.cells #[.int .i64 r6] 3)) hgr (fun k hk => by have := hge k hk; omega)
        have H7 := Lib.hid (And.intro hN7 (And.intro hR7 hO7))
        clear hown hgr hge hN7 hR7 hO7
        go_wp2_with fail
        go_ret
        refine ⟨l ++ [r6], _, _, rfl, ownsRow_low H7.out.1 (by omega), by simp; omega, ?_, by omega, by omega, H7.out.2.1, H7.out.2.2⟩
        intro y hy
        rcases List.mem_append.1 hy with hy | hy
        · exact HB.out y hy
        · rw [List.mem_singleton.1 hy]; omega
      · have hne : (r == 0) = false := by simpa using hr0
        go_wp2_with fail
        go_ret
        exact ⟨l, _, _, rfl, ownsRow_low HN4.out (by omega), by omega, HB.out, by omega, by omega, HR4.out, HO4.out⟩
    · subst hn
      have d1 : decide ((0 : Int) < (j : Int)) = true := decide_eq_true (by omega)
      have HLN := Lib.hid (show l.length ≤ 3 by omega)
      go_wp2_with fail
      refine (pick_any _ g _ 25 HR.out (by omega) (by omega) (by omega)).mono ?_
      rintro e w4 ⟨r, rfl, h0, h1, hrd, ho⟩
      have hs4 := ho.size
      have HN4 := Lib.hid (HN.out.only ho (by omega))
      have HR4 := Lib.hid hrd
      have HO4 := Lib.hid (HO.out.trans ho)
      clear h1 hrd ho HN HR HO HK x0 x1
      by_cases hr0 : r = 0
      · subst hr0
        go_wp2_with fail
        refine (num_any _ g (q + 1) w4.heap.size 3 (-1) (10) (fun i => if i = 0 then -1 else if i = 1 then 10 else 9) (HR4.out.alloc _) (by omega) (by omega) (by omega) (by omega) ?_).mono ?_
        · intro i hi
          have hi' : i = 0 ∨ i = 1 ∨ i = 2 := by omega
          rcases hi' with rfl | rfl | rfl <;> (rw [World.cell?_alloc_new]; simp)
        rintro e w6 ⟨r6, p6, rfl, hv0, hv1, hp2, hp3, hrd, ho⟩
        have hs6 := ho.size
        simp only [World.size_alloc] at hs6
        have HN6 := Lib.hid (NumRow.only (World.ownsRow.alloc HN4.out _) ho (by omega))
        have HR6 := Lib.hid hrd
        have HO6 := Lib.hid ((HO4.out.alloc _).trans ho)
        have HWS := Lib.hid (show w.heap.size + 1 ≤ w6.heap.size by omega)
        clear hrd ho HN4 HR4 HO4
        go_wp2_with (at_builtin; refine wpList_append_row _ rfl (.tmp 38) (.tmp 42) 26 rfl (w.heap.size + 1) 3 iN (.int .i64 0) 1 8 Try.underlying26 HIN.out.1 HIN.out.2.1 HIN.out.2.2.1 HIN.out.2.2.2 rfl (by decide) _ l.length (l.map (Value.int .i64)) rfl (World.ownsRow.alloc HN6.out _) ⟨w6.heap.size, 0, none⟩ 1 1 [.int .i64 r6] rfl rfl ?ar1 ?ar2 (by decide) ?ar3 ?ar4 ?ar5 ?_)
        case ar1 => exact news1 _ _ _
        case ar2 => simp [Value.oneCell']
        case ar3 => rw [HML.out]; omega
        case ar4 => omega
        case ar5 => have := HWS.out; simp; omega
        intro v7 w7 hown hgr _
        have hge := own_ge HN6.out
        have hN7 : NumRow w7 (w.heap.size + 1) v7 (l ++ [r6]) := by
          unfold NumRow
          rw [List.map_append, show (l ++ [(r6 : Int)]).length = l.length + 1 by simp]
          exact hown
        obtain ⟨a7, c7, rfl, _⟩ := ElRow.at (f := Value.int .i64) (e := 3) hN7
        have hR7 := (HR6.out.alloc (.cells #[.int .i64 r6] 3)).grown hgr (fun k hk => by have := hge k hk; omega)
        have hO7 := only_grown (HO6.out.alloc (.cells #[.int .i64 r6] 3)) hgr (fun k hk => by have := hge k hk; omega)
        have H7 := Lib.hid (And.intro hN7 (And.intro hR7 hO7))
        clear hown hgr hge hN7 hR7 hO7
        go_wp2_with fail
        go_ret
        refine ⟨l ++ [r6], _, _, rfl, ownsRow_low H7.out.1 (by omega), by simp; omega, ?_, by omega, by omega, H7.out.2.1, H7.out.2.2⟩
        intro y hy
        rcases List.mem_append.1 hy with hy | hy
        · exact HB.out y hy
        · rw [List.mem_singleton.1 hy]; omega
      · have hne : (r == 0) = false := by simpa using hr0
        go_wp2_with fail
        go_ret
        exact ⟨l, _, _, rfl, ownsRow_low HN4.out (by omega), by omega, HB.out, by omega, by omega, HR4.out, HO4.out⟩
end Go.Proofs.Ytochgmbeomfkpaa
/- DrawOrderSuspend and its like -/
namespace Go.Proofs.Ytochgmbeomfkpaa
open Go.RowKit

/-- A sheet, values and keys were drawn off a code. -/
def ShIKDr (w : World) (e : Ending) (w' : World) : Prop := ∃ (s : Sh) (a : Option Addr) (c : Nat) (a' : Option Addr) (c' : Nat) (l : List Int) (ai : Option Addr) (ci : Nat) (ks : List Int) (ak : Option Addr) (ck : Nat), e = .returned (.tuple #[.agg #[.slice a s.m.length c, .slice a' s.t.length c'], .slice ai l.length ci, .slice ak ks.length ck]) ∧
  ShAt w' (fun _ => True) s a c a' c' ∧ IntsAt w' (fun _ => True) l ai ci ∧ IntsAt w' (fun _ => True) ks ak ck ∧ s.t.length = s.m.length ∧ s.m.length ≤ 8 ∧ nodesL s.t ≤ 120 ∧ l.length ≤ 9 ∧ ks.length ≤ 9 ∧ Below w.heap.size w w'
set_option maxHeartbeats 2000000 in
theorem drawSuspend_any (w : World) (a : Option Addr) (n c : Nat) (h : CodeAt w a n c) : Calls Try.prog 19 #[.slice a n c] w (ShIKDr w) := by
  have HC := Lib.hid (h.alloc (.cells #[.slice none 0 0, .slice none 0 0] 32))
  clear h
  go_enter Try.func19, Try.ntmps19
  go_wp2_with fail
  refine (open_any _ a n c HC.out).mono ?_
  rintro e w1 ⟨rfl, hrd, hb⟩
  have hsz1 := hb.size
  simp only [World.size_alloc] at hsz1 hrd hb
  have HK1 := Lib.hid ((Blk.new w 32 #[.slice none 0 0, .slice none 0 0]).below hb (by omega))
  have HE1 := Lib.hid (And.intro hrd (below_of_box hb))
  have hlt1 : w.heap.size + 1 < w1.heap.size := hrd.lt
  clear hrd hb HC
  go_wp2_with fail
  refine (sheetD_any _ (w.heap.size + 1) 0 ?_ (by omega)).mono ?_
  · exact HE1.out.1
  rintro e w2 ⟨s, v, a', c', q, rfl, hsh, htl, hml, hnl, _, hq2, hrd, ho⟩
  obtain ⟨av, cv, rfl, _⟩ := ElRow.at hsh.row
  have hsz2 := ho.size
  have HK2 := Lib.hid ((HK1.out.only ho (by omega)).alloc (.cells #[.slice av s.m.length cv, .slice a' s.t.length c'] 32))
  have HT2 := Lib.hid (Blk.new w2 32 #[.slice av s.m.length cv, .slice a' s.t.length c'])
  have hB2 : Below w.heap.size w w2 := HE1.out.2.trans ⟨ho.os, ho.tape, ho.output, ho.size, fun k hk => ho.block k (by omega) (by intro e; injection e; omega)⟩
  have HX2 := Lib.hid (hB2.alloc (by omega) (.cells #[.slice av s.m.length cv, .slice a' s.t.length c'] 32))
  have HS2 := Lib.hid (hsh.alloc (.cells #[.slice av s.m.length cv, .slice a' s.t.length c'] 32))
  have HR2 := Lib.hid (hrd.alloc (.cells #[.slice av s.m.length cv, .slice a' s.t.length c'] 32))
  have HTL := Lib.hid htl
  clear hrd ho hB2 HK1 HE1 hsh htl
  go_wp2_with fail
  refine (inputs_any _ (w.heap.size + 1) q av s.m.length cv a' s.t.length c' HR2.out (by omega) hml).mono ?_
  rintro e w3 ⟨l, v, q3, rfl, hn, hl, hlb, _, _, hrd, ho⟩
  have hsz3 := ho.size
  simp only [World.size_alloc] at hsz3 hn
  obtain ⟨ai, ci, rfl, _⟩ := NumRow.at (show NumRow w3 _ v l from hn) (by intro x hx; have := hlb x hx; unfold i64ok; omega)
  have HK3 := Lib.hid (HK2.out.only ho (by omega))
  have HT3 := Lib.hid (HT2.out.only ho (by omega))
  have HX3 := Lib.hid (show Below w.heap.size w w3 from HX2.out.trans ⟨ho.os, ho.tape, ho.output, ho.size, fun k hk => ho.block k (by simp; omega) (by intro e; injection e; omega)⟩)
  have HS3 := Lib.hid (HS2.out.only ho (by omega))
  have HN3 := Lib.hid hn
  have HR3 := Lib.hid hrd
  have HLB := Lib.hid hlb
  clear hn hlb hrd ho HK2 HT2 HX2 HS2 HR2
  obtain ⟨u0, u1, _, _⟩ := HT3.out.two
  go_wp2_with fail
  refine (keysD_any _ (w.heap.size + 1) q3 av s.m.length cv a' s.t.length c' HR3.out (by omega) hml).mono ?_
  rintro e w4 ⟨ks, v, q4, rfl, hn4, hkl, hkb, _, _, hrd, ho⟩
  have hsz4 := ho.size
  obtain ⟨ak, ck, rfl, _⟩ := NumRow.at (show NumRow w4 _ v ks from hn4) (by intro x hx; have := hkb x hx; unfold i64ok; omega)
  have HK4 := Lib.hid (HK3.out.only ho (by omega))
  have HT4 := Lib.hid (HT3.out.only ho (by omega))
  have HX4 := Lib.hid (show Below w.heap.size w w4 from HX3.out.trans ⟨ho.os, ho.tape, ho.output, ho.size, fun k hk => ho.block k (by omega) (by intro e; injection e; omega)⟩)
  have HS4 := Lib.hid (HS3.out.only ho (by omega))
  have HN4 := Lib.hid (NumRow.only HN3.out ho (by omega))
  have HQ4 := Lib.hid hn4
  have HKB := Lib.hid hkb
  clear hn4 hkb hrd ho u0 u1 HK3 HT3 HX3 HS3 HN3 HR3
  obtain ⟨x0, x1, f0, f1⟩ := HK4.out.two
  obtain ⟨y0, y1, _, _⟩ := HT4.out.two
  have hz : w.heap.size < w4.heap.size := by omega
  go_wp2_with fail
  have hb5 := (HK4.out.set_ 0 (.slice av s.m.length cv)).set_ 1 (.slice a' s.t.length c')
  obtain ⟨z0, z1, _, _⟩ := (show Blk _ w.heap.size 32 #[.slice av s.m.length cv, .slice a' s.t.length c'] from hb5).two
  refine bodyPost_ret (v := .tuple #[.agg #[.slice av s.m.length cv, .slice a' s.t.length c'], .slice ai l.length ci, .slice ak ks.length ck]) (by simp only [results, Try.results19]; simp [go_sem, z0, z1]) rfl ?_
  have hne : (Value.slice ai l.length ci).ownBlock ≠ some w.heap.size := fun e => by have := own_ge HN4.out _ e; omega
  have h1 := (HS4.out.set_ ⟨w.heap.size, 0, none⟩ (.slice av s.m.length cv) (.inl (by simp; omega))).set_ ⟨w.heap.size, 1, none⟩ (.slice a' s.t.length c') (.inl (by simp; omega))
  obtain ⟨a6, c6, e6, h2⟩ := h1.at
  simp only [Value.slice.injEq, true_and] at e6
  obtain ⟨rfl, rfl⟩ := e6
  have h3 := ownsRow_setCell_other (ownsRow_setCell_other HN4.out (a := ⟨w.heap.size, 0, none⟩) hne (.slice av s.m.length cv)) (a := ⟨w.heap.size, 1, none⟩) hne (.slice a' s.t.length c')
  obtain ⟨a7, c7, e7, h4⟩ := NumRow.at (show NumRow _ _ _ l from h3) (by intro x hx; have := HLB.out x hx; unfold i64ok; omega)
  simp only [Value.slice.injEq, true_and] at e7
  obtain ⟨rfl, rfl⟩ := e7
  have hneq : (Value.slice ak ks.length ck).ownBlock ≠ some w.heap.size := fun e => by have := own_ge HQ4.out _ e; omega
  have h5 := ownsRow_setCell_other (ownsRow_setCell_other HQ4.out (a := ⟨w.heap.size, 0, none⟩) hneq (.slice av s.m.length cv)) (a := ⟨w.heap.size, 1, none⟩) hneq (.slice a' s.t.length c')
  obtain ⟨a8, c8, e8, h6⟩ := NumRow.at (show NumRow _ _ _ ks from h5) (by intro x hx; have := HKB.out x hx; unfold i64ok; omega)
  simp only [Value.slice.injEq, true_and] at e8
  obtain ⟨rfl, rfl⟩ := e8
  exact ⟨s, av, cv, a', c', l, ai, ci, ks, ak, ck, rfl, h2.keep (fun _ _ => trivial) (fun _ _ _ => rfl), h4.keep (fun _ _ => trivial) (fun _ _ _ => rfl), h6.keep (fun _ _ => trivial) (fun _ _ _ => rfl), HTL.out, hml, hnl, hl, hkl, (HX4.out.setCell (Nat.le_refl _) _).setCell (Nat.le_refl _) _⟩
end Go.Proofs.Ytochgmbeomfkpaa
