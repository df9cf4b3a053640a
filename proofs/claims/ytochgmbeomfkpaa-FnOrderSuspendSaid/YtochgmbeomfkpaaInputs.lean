/- l91Inputs -/
import Derived.Test.YtochgmbeomfkpaaSd1
import Derived.Test.YtochgmbeomfkpaaDr1
namespace Go.Proofs.Ytochgmbeomfkpaa
open Go.RowKit

/-- Values for a sheet were drawn. -/
def InpD (g p : Nat) (w : World) (e : Ending) (w' : World) : Prop := ∃ (l : List Int) (v : Value) (q : Nat), e = .returned v ∧ NumRow w' w.heap.size v l ∧ l.length ≤ 9 ∧ (∀ x ∈ l, -1 ≤ x ∧ x ≤ 97) ∧ p ≤ q ∧ q ≤ p + 100 ∧ RdAt w' g q ∧ Only g w w'

set_option maxHeartbeats 3000000 in
theorem inputs_any (w : World) (g p : Nat) (a : Option Addr) (n c : Nat) (b' : Option Addr) (n' c' : Nat) (hr : RdAt w g p) (hp : p ≤ 990000) (hn8 : n ≤ 8) : Calls Try.prog 49 #[.pointer (some ⟨g, 0, none⟩), .agg #[.slice a n c, .slice b' n' c']] w (InpD g p w) := by
  obtain ⟨iN, ni, nz0, nz1, nz2⟩ := info_parts infoInt
  have HIN := Lib.hid (And.intro ni (And.intro nz0 (And.intro nz1 nz2)))
  have hml : maxLen = 9223372036854775807 := rfl
  have HML := Lib.hid hml
  have hgl := hr.lt
  have hgn : w.heap.size ≠ g := by omega
  obtain ⟨ts, hts⟩ : ∃ v, v = Value.slice b' n' c' := ⟨_, rfl⟩
  have HR0 := Lib.hid ((hr.alloc (.cells #[.slice a n c, .slice b' n' c'] 32)).alloc (.cells #[] 3))
  have hn0 := rowN_new (w.alloc (.cells #[.slice a n c, .slice b' n' c'] 32))
  simp only [World.size_alloc] at hn0
  have HN0 := Lib.hid hn0
  have HO0 := Lib.hid (((Only.refl g w).alloc (.cells #[.slice a n c, .slice b' n' c'] 32)).alloc (.cells #[] 3))
  have hk0 := (Blk.new w 32 #[.slice a n c, .slice b' n' c']).alloc (.cells #[] 3)
  have HK0 := Lib.hid hk0
  have HTS := Lib.hid hts
  clear ni nz0 nz1 nz2 hml hr hn0 hk0 hts
  go_enter Try.func49, Try.ntmps49
  go_wp2_with fail
  refine (pick_any _ g p 2 HR0.out (by omega) (by omega) (by omega)).mono ?_
  rintro e w1 ⟨r0, rfl, h0, h1, hrd, ho⟩
  have hs1 := ho.size
  simp only [World.size_alloc] at hs1
  have HN1 := Lib.hid (HN0.out.only ho (by omega))
  have HR1 := Lib.hid hrd
  have HO1 := Lib.hid (HO0.out.trans ho)
  have hk1 := HK0.out.only ho hgn
  rw [← HTS.out] at hk1
  have HK1 := Lib.hid hk1
  obtain ⟨small, hsm⟩ : ∃ b, b = (r0 == 0) := ⟨_, rfl⟩
  clear h0 h1 hrd ho hk1 HN0 HR0 HO0 HK0
  go_upto_region 3 with (fail)
  rw [← hsm]
  clear hsm
  go_wp2_with fail
  go_loopw [5, 7, 8] (fun v k _ wr => ∃ (l : List Int) (q : Nat), k = .int .i64 l.length ∧ l.length ≤ n ∧ NumRow wr (w.heap.size + 1) v l ∧ (∀ x ∈ l, 0 ≤ x ∧ x ≤ 97) ∧ RdAt wr g q ∧ (p ≤ q ∧ q ≤ p + 1 + 2 * l.length) ∧ Only g w wr ∧ Blk wr w.heap.size 32 #[.slice a n c, ts]) (fun _ k _ _ => n - (intOf k).toNat)
  case atStart => exact ⟨[], _, rfl, by simp, HN1.out, by simp, HR1.out, by simp, HO1.out, HK1.out⟩
  case round =>
    obtain ⟨l, q, rfl, hln, hnr, hb, hrd, hq, ho, hk⟩ := hrel
    obtain ⟨av, cv, rfl, _⟩ := hnr.at (fun y hy => by have := hb y hy; unfold i64ok; omega)
    have HN := Lib.hid hnr
    have HB := Lib.hid hb
    have HR := Lib.hid hrd
    have HO := Lib.hid ho
    have HK := Lib.hid hk
    have hws : w.heap.size < wr.heap.size := hk.lt
    have hl12 : l.length ≤ 8 := by omega
    obtain ⟨x0, x1, _, _⟩ := hk.two
    clear hnr hb hrd ho hk HN1 HR1 HO1 HK1
    by_cases hlt : l.length < n
    · go_wp2_with fail
      refine (pick_any _ g _ 97 HR.out (by omega) (by omega) (by omega)).mono ?_
      rintro e w4 ⟨r, rfl, h0, h1, hrd, ho⟩
      have hr97 := h1 (by omega)
      have hs4 := ho.size
      have HN4 := Lib.hid (HN.out.only ho (by omega))
      have HR4 := Lib.hid hrd
      have HO4 := Lib.hid (HO.out.trans ho)
      have HK4 := Lib.hid (HK.out.only ho hgn)
      have HWS := Lib.hid (show w.heap.size + 1 ≤ w4.heap.size by omega)
      clear h1 hrd ho HN HR HO HK x0 x1
      cases small
      · go_wp2_with (at_builtin; refine wpList_append_row _ rfl (.tmp 25) (.tmp 27) 26 rfl (w.heap.size + 1) 3 iN (.int .i64 0) 1 8 Try.underlying26 HIN.out.1 HIN.out.2.1 HIN.out.2.2.1 HIN.out.2.2.2 rfl (by decide) _ l.length (l.map (Value.int .i64)) rfl (World.ownsRow.alloc HN4.out _) ⟨w4.heap.size, 0, none⟩ 1 1 [.int .i64 r] rfl rfl ?ap1 ?ap2 (by decide) ?ap3 ?ap4 ?ap5 ?_)
        case ap1 => exact news1 _ _ _
        case ap2 => simp [Value.oneCell']
        case ap3 => rw [HML.out]; omega
        case ap4 => omega
        case ap5 => have := HWS.out; simp; omega
        intro v7 w7 hown hgr _
        have hge := own_ge HN4.out
        have hN7 : NumRow w7 (w.heap.size + 1) v7 (l ++ [r]) := by
          unfold NumRow
          rw [List.map_append, show (l ++ [(r : Int)]).length = l.length + 1 by simp]
          exact hown
        obtain ⟨a7, c7, rfl, _⟩ := hN7.at (fun y hy => by
          rcases List.mem_append.1 hy with hy | hy
          · have := HB.out y hy; unfold i64ok; omega
          · rw [List.mem_singleton.1 hy]; unfold i64ok; omega)
        have hR7 := (HR4.out.alloc (.cells #[.int .i64 r] 3)).grown hgr (fun k hk => by have := hge k hk; omega)
        have hO7 := only_grown (HO4.out.alloc (.cells #[.int .i64 r] 3)) hgr (fun k hk => by have := hge k hk; omega)

        have hK7 : Blk w7 w.heap.size 32 #[.slice a n c, ts] := (HK4.out.alloc (.cells #[.int .i64 r] 3)).fr' (grownBy_fr hgr) (fun hd => by have := hge _ hd; omega)
        have H7 := Lib.hid (And.intro hN7 (And.intro hR7 (And.intro hO7 hK7)))
        clear hown hgr hge hN7 hR7 hO7 hK7
        go_wp2_with fail
        go_roundw
        case rel =>
          refine ⟨l ++ [r], _, by simp only [List.length_append, List.length_singleton]; go_num, by simp; omega, by simpa using H7.out.1, ?_, H7.out.2.1, by simp only [List.length_append, List.length_singleton]; omega, H7.out.2.2.1, H7.out.2.2.2⟩
          intro y hy
          rcases List.mem_append.1 hy with hy | hy
          · exact HB.out y hy
          · rw [List.mem_singleton.1 hy]; omega
        case measure => simp [intOf]; omega
      · go_wp2_with fail
        refine (pick_any _ g _ 3 HR4.out (by omega) (by omega) (by omega)).mono ?_
        rintro e w5 ⟨r2, rfl, k0, k1, hrd, ho⟩
        have hr23 := k1 (by omega)
        have hs5 := ho.size
        have HN5 := Lib.hid (HN4.out.only ho (by omega))
        have HR5 := Lib.hid hrd
        have HO5 := Lib.hid (HO4.out.trans ho)
        have HK5 := Lib.hid (HK4.out.only ho hgn)
        clear HWS
        have HWS := Lib.hid (show w.heap.size + 1 ≤ w5.heap.size by omega)
        clear k1 hrd ho HN4 HR4 HO4 HK4
        go_wp2_with (at_builtin; refine wpList_append_row _ rfl (.tmp 25) (.tmp 27) 26 rfl (w.heap.size + 1) 3 iN (.int .i64 0) 1 8 Try.underlying26 HIN.out.1 HIN.out.2.1 HIN.out.2.2.1 HIN.out.2.2.2 rfl (by decide) _ l.length (l.map (Value.int .i64)) rfl (World.ownsRow.alloc HN5.out _) ⟨w5.heap.size, 0, none⟩ 1 1 [.int .i64 r2] rfl rfl ?aq1 ?aq2 (by decide) ?aq3 ?aq4 ?aq5 ?_)
        case aq1 => exact news1 _ _ _
        case aq2 => simp [Value.oneCell']
        case aq3 => rw [HML.out]; omega
        case aq4 => omega
        case aq5 => have := HWS.out; simp; omega
        intro v7 w7 hown hgr _
        have hge := own_ge HN5.out
        have hN7 : NumRow w7 (w.heap.size + 1) v7 (l ++ [r2]) := by
          unfold NumRow
          rw [List.map_append, show (l ++ [(r2 : Int)]).length = l.length + 1 by simp]
          exact hown
        obtain ⟨a7, c7, rfl, _⟩ := hN7.at (fun y hy => by
          rcases List.mem_append.1 hy with hy | hy
          · have := HB.out y hy; unfold i64ok; omega
          · rw [List.mem_singleton.1 hy]; unfold i64ok; omega)
        have hR7 := (HR5.out.alloc (.cells #[.int .i64 r2] 3)).grown hgr (fun k hk => by have := hge k hk; omega)
        have hO7 := only_grown (HO5.out.alloc (.cells #[.int .i64 r2] 3)) hgr (fun k hk => by have := hge k hk; omega)

        have hK7 : Blk w7 w.heap.size 32 #[.slice a n c, ts] := (HK5.out.alloc (.cells #[.int .i64 r2] 3)).fr' (grownBy_fr hgr) (fun hd => by have := hge _ hd; omega)
        have H7 := Lib.hid (And.intro hN7 (And.intro hR7 (And.intro hO7 hK7)))
        clear hown hgr hge hN7 hR7 hO7 hK7
        go_wp2_with fail
        go_roundw
        case rel =>
          refine ⟨l ++ [r2], _, by simp only [List.length_append, List.length_singleton]; go_num, by simp; omega, by simpa using H7.out.1, ?_, H7.out.2.1, by simp only [List.length_append, List.length_singleton]; omega, H7.out.2.2.1, H7.out.2.2.2⟩
          intro y hy
          rcases List.mem_append.1 hy with hy | hy
          · exact HB.out y hy
          · rw [List.mem_singleton.1 hy]; omega
        case measure => simp [intOf]; omega
    · have HLN := Lib.hid (show l.length = n by omega)
      go_wp2_with fail
      refine (pick_any _ g _ 25 HR.out (by omega) (by omega) (by omega)).mono ?_
      rintro e w4 ⟨r, rfl, h0, h1, hrd, ho⟩
      have hs4 := ho.size
      have HN4 := Lib.hid (HN.out.only ho (by omega))
      have HR4 := Lib.hid hrd
      have HO4 := Lib.hid (HO.out.trans ho)
      clear h1 hrd ho HN HR HO HK x0 x1
      by_cases hr0 : r = 0
      · subst hr0
        go_wp2_with fail
        refine (num_any _ g (q + 1) w4.heap.size 3 (-1) (97) (fun i => if i = 0 then 0 else if i = 1 then 97 else -1) (HR4.out.alloc _) (by omega) (by omega) (by omega) (by omega) ?_).mono ?_
        · intro i hi
          have hi' : i = 0 ∨ i = 1 ∨ i = 2 := by omega
          rcases hi' with rfl | rfl | rfl <;> (rw [World.cell?_alloc_new]; simp)
        rintro e w6 ⟨r6, p6, rfl, hv0, hv1, hp2, hp3, hrd, ho⟩
        have hs6 := ho.size
        simp only [World.size_alloc] at hs6
        have HN6 := Lib.hid (NumRow.only (World.ownsRow.alloc HN4.out _) ho (by omega))
        have HR6 := Lib.hid hrd
        have HO6 := Lib.hid ((HO4.out.alloc _).trans ho)
        have HWS := Lib.hid (show w.heap.size + 1 ≤ w6.heap.size by omega)
        clear hrd ho HN4 HR4 HO4
        go_wp2_with (at_builtin; refine wpList_append_row _ rfl (.tmp 32) (.tmp 36) 26 rfl (w.heap.size + 1) 3 iN (.int .i64 0) 1 8 Try.underlying26 HIN.out.1 HIN.out.2.1 HIN.out.2.2.1 HIN.out.2.2.2 rfl (by decide) _ l.length (l.map (Value.int .i64)) rfl (World.ownsRow.alloc HN6.out _) ⟨w6.heap.size, 0, none⟩ 1 1 [.int .i64 r6] rfl rfl ?ar1 ?ar2 (by decide) ?ar3 ?ar4 ?ar5 ?_)
        case ar1 => exact news1 _ _ _
        case ar2 => simp [Value.oneCell']
        case ar3 => rw [HML.out]; omega
        case ar4 => omega
        case ar5 => have := HWS.out; simp; omega
        intro v7 w7 hown hgr _
        have hge := own_ge HN6.out
        have hN7 : NumRow w7 (w.heap.size + 1) v7 (l ++ [r6]) := by
          unfold NumRow
          rw [List.map_append, show (l ++ [(r6 : Int)]).length = l.length + 1 by simp]
          exact hown
        obtain ⟨a7, c7, rfl, _⟩ := hN7.at (fun y hy => by
          rcases List.mem_append.1 hy with hy | hy
          · have := HB.out y hy; unfold i64ok; omega
          · rw [List.mem_singleton.1 hy]; unfold i64ok; omega)
        have hR7 := (HR6.out.alloc (.cells #[.int .i64 r6] 3)).grown hgr (fun k hk => by have := hge k hk; omega)
        have hO7 := only_grown (HO6.out.alloc (.cells #[.int .i64 r6] 3)) hgr (fun k hk => by have := hge k hk; omega)

        have H7 := Lib.hid (And.intro hN7 (And.intro hR7 hO7))
        clear hown hgr hge hN7 hR7 hO7
        go_wp2_with fail
        go_ret
        refine ⟨l ++ [r6], _, _, rfl, ownsRow_low H7.out.1 (by omega), by simp; omega, ?_, by omega, by omega, H7.out.2.1, H7.out.2.2⟩
        intro y hy
        rcases List.mem_append.1 hy with hy | hy
        · have := HB.out y hy; omega
        · rw [List.mem_singleton.1 hy]; omega
      · have hne : (r == 0) = false := by simpa using hr0
        go_wp2_with fail
        go_ret
        exact ⟨l, _, _, rfl, ownsRow_low HN4.out (by omega), by omega, fun y hy => by have := HB.out y hy; omega, by omega, by omega, HR4.out, HO4.out⟩
end Go.Proofs.Ytochgmbeomfkpaa
