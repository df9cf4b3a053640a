/- l91Trace: a trace drawn off a code -/
import Derived.Test.YtjbggeeadodmpaaLawDTO
import Derived.Test.YtjbggeeadodmpaaTrM
namespace Go.Proofs.Ytjbggeeadodmpaa
open Go.RowKit

theorem FRow.only {g base n : Nat} {w w2 : World} {v : Value} {l : List Int} (h : FRow w base v n l) (ho : Only g w w2) (hg : g < base) : FRow w2 base v n l :=
  World.ownsRow.kept h ho (by
    cases hv : v.ownBlock with
    | none => exact .inl rfl
    | some k => refine .inr ?_; intro e; injection e with e; have := own_ge h k hv; omega)
theorem trOf_ok (key : Int) (t : T) (lv : List Int) (h : trB key t lv = true) : (trOf key t (vf lv)).ok = true := by
  have h1 := (trO_holds key t lv h).1
  unfold trO at h1
  rw [if_pos h] at h1
  unfold trH at h1
  rw [Bool.and_eq_true] at h1
  exact h1.1
theorem vok_of {l : List Int} (h1 : l.length ≤ 10) (h2 : ∀ x ∈ l, 0 ≤ x ∧ x ≤ 96) : vok l = true := by
  unfold vok
  simp only [vin, Bool.and_eq_true, decide_eq_true_eq, List.all_eq_true]
  exact ⟨h1, h2⟩

theorem onePr (w : World) (k v : Int) (hk : i64ok k) (hv : i64ok v) : PrsAt (w.alloc (.cells #[.int .i64 k, .int .i64 v] 63)) (fun _ => True) [(k, v)] (some ⟨w.heap.size, 0, none⟩) 1 := by
  refine ⟨by simp, by decide, .inr ⟨w.heap.size, 0, rfl, trivial, ?_⟩⟩
  intro i hi
  have hi0 : i = 0 := by simp at hi; omega
  subst hi0
  exact ⟨hk, hv, by rw [World.cell?_alloc_new]; simp, by rw [World.cell?_alloc_new]; simp⟩

/-- A trace was drawn. -/
def TraceD (g p : Nat) (w : World) (e : Ending) (w' : World) : Prop :=
  ∃ (r : Tr) (v : Value) (p' : Nat), e = .returned (.agg #[.int .i64 r.k, v, .int .i64 r.v]) ∧ FRow w' w.heap.size v r.u.length (pcl r.u) ∧ (0 ≤ r.k ∧ r.k ≤ 9) ∧ (-1 ≤ r.v ∧ r.v ≤ 97) ∧
    (∀ q ∈ r.u, (0 ≤ q.1 ∧ q.1 ≤ 10) ∧ (0 ≤ q.2 ∧ q.2 ≤ 96)) ∧ r.u.length ≤ 16 ∧ p ≤ p' ∧ p' ≤ p + 70 ∧ RdAt w' g p' ∧ Only g w w'

set_option maxRecDepth 100000 in
set_option maxHeartbeats 1200000 in
theorem trace_any (w : World) (g p : Nat) (hr : RdAt w g p) (hp : p ≤ 980000) : Calls Try.prog 29 #[.pointer (some ⟨g, 0, none⟩)] w (TraceD g p w) := by
  obtain ⟨iN, ni, nz0, nz1, nz2⟩ := info_parts infoInt
  have HIN := Lib.hid (And.intro ni (And.intro nz0 (And.intro nz1 nz2)))
  have hml : maxLen = 9223372036854775807 := rfl
  have HML := Lib.hid hml
  have hgl := hr.lt
  have HR0 := Lib.hid ((hr.alloc (.cells #[.int .i64 0, .slice none 0 0, .int .i64 0] 25)).alloc (.cells #[] 3))
  have HN0 := Lib.hid (show NumRow ((w.alloc (.cells #[.int .i64 0, .slice none 0 0, .int .i64 0] 25)).alloc (.cells #[] 3)) (w.heap.size + 1) (.slice (some ⟨w.heap.size + 1, 0, none⟩) 0 0) [] by
    have := rowN_new (w.alloc (.cells #[.int .i64 0, .slice none 0 0, .int .i64 0] 25)); simpa using this)
  have HO0 := Lib.hid (((Only.refl g w).alloc (.cells #[.int .i64 0, .slice none 0 0, .int .i64 0] 25)).alloc (.cells #[] 3))
  have HB0 := Lib.hid ((Blk.new w 25 #[.int .i64 0, .slice none 0 0, .int .i64 0]).alloc (.cells #[] 3))
  clear ni nz0 nz1 nz2 hml hr
  go_enter Try.func29, Try.ntmps29
  go_wp2_with fail
  refine (pick_any _ g p 11 HR0.out (by omega) (by omega) (by omega)).mono ?_
  rintro e w1 ⟨r, rfl, h0, h1, hrd, ho⟩
  have hr11 := h1 (by omega)
  have HN1 := Lib.hid (HN0.out.only ho (by omega))
  have HR1 := Lib.hid hrd
  have HO1 := Lib.hid (HO0.out.trans ho)
  have HB1 := Lib.hid (HB0.out.only ho (by omega))
  clear h1 hrd ho HR0 HN0 HO0 HB0
  go_wp2_with fail
  go_loopw [3, 4] (fun v k wr => ∃ (l : List Int) (q : Nat), k = .int .i64 q ∧ l.length + q ≤ 10 ∧ NumRow wr (w.heap.size + 1) v l ∧ (∀ x ∈ l, 0 ≤ x ∧ x ≤ 96) ∧ RdAt wr g (p + 1 + l.length) ∧ Only g w wr ∧ Blk wr w.heap.size 25 #[.int .i64 0, .slice none 0 0, .int .i64 0]) (fun _ k _ => (intOf k).toNat)
  case atStart => exact ⟨[], r.toNat, congrArg (Value.int .i64) (by omega), by simp; omega, HN1.out, by simp, HR1.out, HO1.out, HB1.out⟩
  case round =>
    obtain ⟨l, q, rfl, hq, hn, hb, hrd, ho, hbk⟩ := hrel
    have HB := Lib.hid hb
    have HRD := Lib.hid hrd
    have HO := Lib.hid ho
    have HK := Lib.hid hbk
    have hws := ho.size
    have hbl := hbk.lt
    clear hb hrd ho hbk
    by_cases hq0 : q = 0
    · subst hq0
      obtain ⟨av, cv, hva, _⟩ := NumRow.at (show NumRow _ _ _ l from hn) (by intro x hx; have := HB.out x hx; unfold i64ok; omega)
      subst hva
      have HN := Lib.hid hn
      clear hn
      go_wp2_with fail
      refine (pick_any _ g _ 10 HRD.out (by omega) (by omega) (by omega)).mono ?_
      rintro e w2 ⟨key, rfl, k0, h1, hrd, ho⟩
      have k9 := h1 (by omega)
      have hs2 := ho.size
      have HN2 := Lib.hid (HN.out.only ho (by omega))
      have HR2 := Lib.hid hrd
      have HO2 := Lib.hid (HO.out.trans ho)
      have HK2 := Lib.hid (HK.out.only ho (by omega))
      clear h1 hrd ho HN HRD HO HK
      go_wp2_with fail
      refine (fit_any _ g _ 10 HR2.out (by omega) (by omega) (by omega)).mono ?_
      rintro e w3 ⟨t, at_, ct, p3, rfl, hat, ok1, ok2, hok, hp0, hp1, hrd, ho⟩
      have hs3 := ho.size
      have hn3 := HN2.out.only ho (by omega)
      have HR3 := Lib.hid hrd
      have HO3 := Lib.hid (HO2.out.trans ho)
      have HK3 := Lib.hid (HK2.out.only ho (by omega))
      obtain ⟨av2, cv2, hva, hia⟩ := NumRow.at (show NumRow _ _ _ l from hn3) (by intro x hx; have := HB.out x hx; unfold i64ok; omega)
      simp only [Value.slice.injEq, true_and] at hva
      obtain ⟨rfl, rfl⟩ := hva
      have hvl : vok l = true := vok_of (by omega) HB.out
      have htb : (t.ok && vok l) = true := by rw [hok, hvl]; rfl
      have hkn : trB key t l = true := by unfold trB; rw [htb]; simp [kin]; omega
      have htr := trOf_ok key t l hkn
      have hlen := Tr.ok_len htr
      have hbd := (Tr.ok_iff _).1 htr
      have HAT := Lib.hid hat.at
      have HIA := Lib.hid hia
      have HTB := Lib.hid htb
      obtain ⟨u, hu⟩ : ∃ u, u = trOf key t (vf l) := ⟨_, rfl⟩
      have HU := Lib.hid hu
      rw [← hu] at hlen hbd
      have HBD := Lib.hid hbd
      clear hrd ho hat ok1 ok2 hok hvl htb hkn htr hia hn3 hu hbd HN2 HR2 HO2 HK2
      go_wp2_with fail
      refine (l5Of_any key t l _ _ _ at_ av ct cv HAT.out HIA.out HTB.out).mono ?_
      rw [← HU.out]
      rintro e w4 ⟨hb4, v4, rfl, hfr⟩
      obtain ⟨au, cu, rfl⟩ := own_shape' hfr
      have hs4 := hb4.size
      have HF4 := Lib.hid (show FRow (w4.alloc (.cells #[.int .i64 u.k, .slice au u.u.length cu, .int .i64 u.v] 25)) (w.heap.size + 1) (.slice au u.u.length cu) u.u.length (pcl u.u) from FRow.below (ownsRow_low hfr (by omega)) ((Below.refl _ _).alloc (Nat.le_refl _) _))
      have HR4 := Lib.hid ((HR3.out.below hb4).alloc (.cells #[.int .i64 u.k, .slice au u.u.length cu, .int .i64 u.v] 25))
      have HO4 := Lib.hid ((HO3.out.trans (Only.of_below hb4)).alloc (.cells #[.int .i64 u.k, .slice au u.u.length cu, .int .i64 u.v] 25))
      have HK4 := Lib.hid ((HK3.out.below hb4 HK3.out.lt).alloc (.cells #[.int .i64 u.k, .slice au u.u.length cu, .int .i64 u.v] 25))
      have HX4 := Lib.hid (Blk.new w4 25 #[.int .i64 u.k, .slice au u.u.length cu, .int .i64 u.v])
      have hge4 := own_ge hfr
      have HD := Lib.hid (show ∀ b, (Value.slice au u.u.length cu).ownBlock = some b → b ≠ w4.heap.size ∧ b ≠ w.heap.size from fun b hb => ⟨by have := (World.ownsRow.lt hfr b hb).2; omega, by have := hge4 b hb; omega⟩)
      clear hge4 hb4 hfr HR3 HO3 HK3 HAT HIA HTB
      go_wp2_with fail
      refine (pick_any _ g p3 8 HR4.out (by omega) (by omega) (by omega)).mono ?_
      rintro e w5 ⟨x, rfl, x0, h1, hrd, ho⟩
      have hs5 := ho.size
      simp only [World.size_alloc] at hs5
      have HF5 := Lib.hid (HF4.out.only ho (by omega))
      have HR5 := Lib.hid hrd
      have HO5 := Lib.hid (HO4.out.trans ho)
      have HK5 := Lib.hid (HK4.out.only ho (by omega))
      have HX5 := Lib.hid (HX4.out.only ho (by omega))
      clear h1 hrd ho HF4 HR4 HO4 HK4 HX4
      by_cases hx0 : x = 0
      · subst hx0
        have HCC := Lib.hid (show ∀ w', Only g w5.drew w' → Blk w' w4.heap.size 25 #[.int .i64 u.k, .slice au u.u.length cu, .int .i64 u.v] from fun w' ho => Blk.only (w := w5.drew) HX5.out ho (by omega))
        have HCK := Lib.hid (show ∀ w', Only g w5.drew w' → Blk w' w.heap.size 25 #[.int .i64 0, .slice none 0 0, .int .i64 0] from fun w' ho => Blk.only (w := w5.drew) HK5.out ho (by omega))
        have HFF := Lib.hid (show ∀ w', Only g w5.drew w' → FRow w' (w.heap.size + 1) (.slice au u.u.length cu) u.u.length (pcl u.u) from fun w' ho => FRow.only (w := w5.drew) (FRow.below HF5.out (Below.refl _ _).drew) ho (by omega))
        have HR5d := Lib.hid (show RdAt w5.drew g (p3 + 1) from HR5.out.keep (fun _ _ => rfl))
        have hs5d : w5.drew.heap.size = w5.heap.size := rfl
        obtain ⟨c0, c1, c2, -⟩ := (Blk.drew HX5.out).three
        go_wp2_with fail
        go_region_law (first
          | (go_simp; go_at_call 32; refine (pick_any w6 g (p3 + 1 + 1) 5 hrd6 (by omega) (by omega) (by omega)).mono ?_; rintro e w7 ⟨va, rfl, va0, va1, hrd7, ho7⟩; obtain ⟨e0, e1, e2, -⟩ := (HCC.out w7 (ho6.trans ho7)).three; obtain ⟨p0, p1, p2, -⟩ := ((HCC.out w7 (ho6.trans ho7)).alloc (.cells #[.int .i64 ka, .int .i64 va] 63)).three)
          | (go_simp; go_at_call 32; refine (pick_any w5.drew g (p3 + 1) 11 HR5d.out (by omega) (by omega) (by omega)).mono ?_; rintro e w6 ⟨ka, rfl, ka0, ka1, hrd6, ho6⟩; obtain ⟨d0, d1, d2, -⟩ := (HCC.out w6 ho6).three)
          | (refine step_append_prs rfl (.tmp 28) (.tmp 34) rfl (w.heap.size + 1) (.slice au u.u.length cu) u.u rfl (FRow.below (HFF.out w7 (ho6.trans ho7)) ((Below.refl _ _).alloc (Nat.le_refl _) (.cells #[.int .i64 ka, .int .i64 va] 63))) (fun _ => True) [(ka, va)] (some ⟨w7.heap.size, 0, none⟩) 1 rfl (onePr w7 ka va (by have := ka1 (by omega); unfold i64ok; omega) (by have := va1 (by omega); unfold i64ok; omega)) (by simp; omega) (by have := ho6.size; have := ho7.size; simp at *; omega) ?_; intro v8 w8 hr8 hgr hn8; have hk8 : Blk w8 w4.heap.size 25 #[.int .i64 u.k, .slice au u.u.length cu, .int .i64 u.v] := (hgr.block w4.heap.size (by have := ho6.size; have := ho7.size; simp at *; omega) (by intro e; exact (HD.out _ e.symm).1 rfl)).trans ((HCC.out w7 (ho6.trans ho7)).alloc _); obtain ⟨i0, i1, i2, j0, j1, j2⟩ := hk8.three; obtain ⟨a8, c8, rfl⟩ := own_shape' hr8))
        all_goals
          have hveq : Value.slice a8 (u.u ++ [(ka, va)]).length c8 = Value.slice a8 (u.u.length + 1) c8 := by rw [show (u.u ++ [(ka, va)]).length = u.u.length + 1 by simp]
          rw [hveq] at hr8 hn8
          have hka := ka1 (by omega)
          have hva := va1 (by omega)
          have hs6 := ho6.size
          have hs7 := ho7.size
          have hs8 := hgr.size
          simp only [World.size_alloc] at hs8
          have ho7' := ho6.trans ho7
          have hd8 : ∀ b, (Value.slice a8 (u.u.length + 1) c8).ownBlock = some b → b ≠ w4.heap.size ∧ b ≠ w.heap.size := fun b hb => by
            rcases hn8 b hb with h | h
            · exact HD.out b h
            · simp at h; omega
          have hkr : Blk w8 w.heap.size 25 #[.int .i64 0, .slice none 0 0, .int .i64 0] := (hgr.block w.heap.size (by simp; omega) (by intro e; exact (HD.out _ e.symm).2 rfl)).trans ((HCK.out w7 ho7').alloc _)
          have HF8 := Lib.hid (ownsRow_setCell_other hr8 (a := ⟨w4.heap.size, 1, none⟩) (fun e => (hd8 _ e).1 rfl) (.slice a8 (u.u.length + 1) c8))
          have hge8 := own_ge (HFF.out w7 ho7')
          have HR8 := Lib.hid (((hrd7.alloc (.cells #[.int .i64 ka, .int .i64 va] 63)).grown hgr (fun k hk => by have := hge8 k hk; omega)).keep (w' := w8.setCell ⟨w4.heap.size, 1, none⟩ (.slice a8 (u.u.length + 1) c8)) (fun k hk => Below.heap_setCell _ _ _ _ (by simp; omega)))
          have HO8 := Lib.hid ((only_grown ((((HO5.out.drewN 1).trans (show Only g (w5.drewN 1) w7 from ho7')).alloc (.cells #[.int .i64 ka, .int .i64 va] 63))) hgr (fun k hk => by have := hge8 k hk; omega)).set (p := ⟨w4.heap.size, 1, none⟩) (.inr (by simp; omega)) (.slice a8 (u.u.length + 1) c8))
          have HK8 := Lib.hid (hkr.far (p := ⟨w4.heap.size, 1, none⟩) (by simp; omega) (.slice a8 (u.u.length + 1) c8))
          have HX8 := Lib.hid (show Blk (w8.setCell ⟨w4.heap.size, 1, none⟩ (.slice a8 (u.u.length + 1) c8)) w4.heap.size 25 #[.int .i64 u.k, .slice a8 (u.u.length + 1) c8, .int .i64 u.v] from hk8.set_ 1 _)
          clear HD hveq
          have HD := Lib.hid hd8
          clear hd8 hkr hk8 hr8 hgr hn8 ho6 ho7 ho7' hrd6 hrd7 hge8 HF5 HR5 HO5 HK5 HX5 HCC HCK HFF HR5d c0 c1 c2 ka1 va1
          go_wp2_with fail
          refine (pick_any _ g (p3 + 1 + 1 + 1) 20 HR8.out (by omega) (by omega) (by omega)).mono ?_
          rintro e wa ⟨y, rfl, y0, h1, hrd, ho⟩
          have hsa := ho.size
          try simp only [World.size_setCell] at hsa
          have HFa := Lib.hid (FRow.only HF8.out ho (by omega))
          have HRa := Lib.hid hrd
          have HOa := Lib.hid (HO8.out.trans ho)
          have HKa := Lib.hid (HK8.out.only ho (by omega))
          have HXa := Lib.hid (HX8.out.only ho (by omega))
          clear h1 hrd ho HF8 HR8 HO8 HK8 HX8
          by_cases hy0 : y = 0
          · subst hy0
            go_wp2_with fail
            refine (num_any _ g (p3 + 1 + 1 + 1 + 1) wa.heap.size 3 (-1) 97 (fun i => if i = 0 then 97 else if i = 1 then -1 else 0) (HRa.out.alloc _) (by omega) (by omega) (by omega) (by omega) ?_).mono ?_
            · intro i hi
              have hi' : i = 0 ∨ i = 1 ∨ i = 2 := by omega
              rcases hi' with rfl | rfl | rfl <;> (rw [World.cell?_alloc_new]; simp)
            rintro e wb ⟨z, pz, rfl, hz0, hz1, hp2, hp3, hrd, ho⟩
            have hsb := ho.size
            simp only [World.size_alloc] at hsb
            have HFb := Lib.hid (FRow.only (World.ownsRow.alloc HFa.out _) ho (by omega))
            have HRb := Lib.hid hrd
            have HOb := Lib.hid ((HOa.out.alloc _).trans ho)
            have HKb := Lib.hid ((HKa.out.alloc _).only ho (by omega))
            have HXb := Lib.hid ((HXa.out.alloc _).only ho (by omega))
            clear hrd ho HFa HRa HOa HKa HXa
            obtain ⟨b0, b1, b2, f0, f1, f2⟩ := HKb.out.three
            obtain ⟨c0, c1, c2, e0, e1, e2⟩ := HXb.out.three
            go_wp2_with fail
            have hb5 := (((HKb.out.far (p := ⟨w4.heap.size, 2, none⟩) (by simp; omega) (.int .i64 z)).set_ 0 (.int .i64 u.k)).set_ 1 (Value.slice a8 (u.u.length + 1) c8)).set_ 2 (.int .i64 z)
            obtain ⟨z0, z1, z2, _, _, _⟩ := (show Blk _ w.heap.size 25 #[.int .i64 u.k, Value.slice a8 (u.u.length + 1) c8, .int .i64 z] from hb5).three
            refine bodyPost_ret (v := .agg #[.int .i64 u.k, Value.slice a8 (u.u.length + 1) c8, .int .i64 z]) (by simp only [results, Try.results29]; simp [go_sem, z0, z1, z2]) rfl ?_
            have n1 : (Value.slice a8 (u.u.length + 1) c8).ownBlock ≠ some w.heap.size := fun e => (HD.out _ e).2 rfl
            have n2 : (Value.slice a8 (u.u.length + 1) c8).ownBlock ≠ some w4.heap.size := fun e => (HD.out _ e).1 rfl
            refine ⟨⟨u.k, u.u ++ [(ka, va)], z⟩, _, pz, rfl, ownsRow_low (ownsRow_setCell_other (ownsRow_setCell_other (ownsRow_setCell_other (ownsRow_setCell_other HFb.out (a := ⟨w4.heap.size, 2, none⟩) n2 _) (a := ⟨w.heap.size, 0, none⟩) n1 _) (a := ⟨w.heap.size, 1, none⟩) n1 _) (a := ⟨w.heap.size, 2, none⟩) n1 _) (by omega), HBD.out.1, (show -1 ≤ z ∧ z ≤ 97 by have := HBD.out.2.1; omega), ?_, ?_, by omega, by omega, ?_, ?_⟩
            · intro s hs
              rcases List.mem_append.1 hs with hs | hs
              · have := HBD.out.2.2.1 s hs; omega
              · simp at hs; subst hs; simp; omega
            · simp; omega
            · exact RdAt.set3 (HRb.out.keep (fun k hk => Below.heap_setCell _ _ _ _ (by simp; omega))) (by omega) _ _ _
            · exact Only.set3 (HOb.out.set (.inr (by simp; omega)) _) (Nat.le_refl _) _ _ _
          · have hne : (y == 0) = false := by simpa using hy0
            obtain ⟨b0, b1, b2, f0, f1, f2⟩ := HKa.out.three
            obtain ⟨c0, c1, c2, e0, e1, e2⟩ := HXa.out.three
            go_wp2_with fail
            have hb5 := ((HKa.out.set_ 0 (.int .i64 u.k)).set_ 1 (Value.slice a8 (u.u.length + 1) c8)).set_ 2 (.int .i64 u.v)
            obtain ⟨z0, z1, z2, _, _, _⟩ := (show Blk _ w.heap.size 25 #[.int .i64 u.k, Value.slice a8 (u.u.length + 1) c8, .int .i64 u.v] from hb5).three
            refine bodyPost_ret (v := .agg #[.int .i64 u.k, Value.slice a8 (u.u.length + 1) c8, .int .i64 u.v]) (by simp only [results, Try.results29]; simp [go_sem, z0, z1, z2]) rfl ?_
            have n1 : (Value.slice a8 (u.u.length + 1) c8).ownBlock ≠ some w.heap.size := fun e => (HD.out _ e).2 rfl
            refine ⟨⟨u.k, u.u ++ [(ka, va)], u.v⟩, _, p3 + 1 + 1 + 1 + 1, rfl, ownsRow_low (ownsRow_setCell_other (ownsRow_setCell_other (ownsRow_setCell_other HFa.out (a := ⟨w.heap.size, 0, none⟩) n1 _) (a := ⟨w.heap.size, 1, none⟩) n1 _) (a := ⟨w.heap.size, 2, none⟩) n1 _) (by omega), HBD.out.1, (show -1 ≤ u.v ∧ u.v ≤ 97 by have := HBD.out.2.1; omega), ?_, ?_, by omega, by omega, ?_, ?_⟩
            · intro s hs
              rcases List.mem_append.1 hs with hs | hs
              · have := HBD.out.2.2.1 s hs; omega
              · simp at hs; subst hs; simp; omega
            · simp; omega
            · exact RdAt.set3 HRa.out (by omega) _ _ _
            · exact Only.set3 HOa.out (Nat.le_refl _) _ _ _
      · have hnx : (x == 0) = false := by simpa using hx0
        go_wp2_with fail
        refine (pick_any _ g (p3 + 1) 20 HR5.out (by omega) (by omega) (by omega)).mono ?_
        rintro e wa ⟨y, rfl, y0, h1, hrd, ho⟩
        have hsa := ho.size
        try simp only [World.size_setCell] at hsa
        have HFa := Lib.hid (FRow.only HF5.out ho (by omega))
        have HRa := Lib.hid hrd
        have HOa := Lib.hid (HO5.out.trans ho)
        have HKa := Lib.hid (HK5.out.only ho (by omega))
        have HXa := Lib.hid (HX5.out.only ho (by omega))
        clear h1 hrd ho HF5 HR5 HO5 HK5 HX5
        by_cases hy0 : y = 0
        · subst hy0
          go_wp2_with fail
          refine (num_any _ g (p3 + 1 + 1) wa.heap.size 3 (-1) 97 (fun i => if i = 0 then 97 else if i = 1 then -1 else 0) (HRa.out.alloc _) (by omega) (by omega) (by omega) (by omega) ?_).mono ?_
          · intro i hi
            have hi' : i = 0 ∨ i = 1 ∨ i = 2 := by omega
            rcases hi' with rfl | rfl | rfl <;> (rw [World.cell?_alloc_new]; simp)
          rintro e wb ⟨z, pz, rfl, hz0, hz1, hp2, hp3, hrd, ho⟩
          have hsb := ho.size
          simp only [World.size_alloc] at hsb
          have HFb := Lib.hid (FRow.only (World.ownsRow.alloc HFa.out _) ho (by omega))
          have HRb := Lib.hid hrd
          have HOb := Lib.hid ((HOa.out.alloc _).trans ho)
          have HKb := Lib.hid ((HKa.out.alloc _).only ho (by omega))
          have HXb := Lib.hid ((HXa.out.alloc _).only ho (by omega))
          clear hrd ho HFa HRa HOa HKa HXa
          obtain ⟨b0, b1, b2, f0, f1, f2⟩ := HKb.out.three
          obtain ⟨c0, c1, c2, e0, e1, e2⟩ := HXb.out.three
          go_wp2_with fail
          have hb5 := (((HKb.out.far (p := ⟨w4.heap.size, 2, none⟩) (by simp; omega) (.int .i64 z)).set_ 0 (.int .i64 u.k)).set_ 1 (Value.slice au u.u.length cu)).set_ 2 (.int .i64 z)
          obtain ⟨z0, z1, z2, _, _, _⟩ := (show Blk _ w.heap.size 25 #[.int .i64 u.k, Value.slice au u.u.length cu, .int .i64 z] from hb5).three
          refine bodyPost_ret (v := .agg #[.int .i64 u.k, Value.slice au u.u.length cu, .int .i64 z]) (by simp only [results, Try.results29]; simp [go_sem, z0, z1, z2]) rfl ?_
          have n1 : (Value.slice au u.u.length cu).ownBlock ≠ some w.heap.size := fun e => (HD.out _ e).2 rfl
          have n2 : (Value.slice au u.u.length cu).ownBlock ≠ some w4.heap.size := fun e => (HD.out _ e).1 rfl
          refine ⟨⟨u.k, u.u, z⟩, _, pz, rfl, ownsRow_low (ownsRow_setCell_other (ownsRow_setCell_other (ownsRow_setCell_other (ownsRow_setCell_other HFb.out (a := ⟨w4.heap.size, 2, none⟩) n2 _) (a := ⟨w.heap.size, 0, none⟩) n1 _) (a := ⟨w.heap.size, 1, none⟩) n1 _) (a := ⟨w.heap.size, 2, none⟩) n1 _) (by omega), HBD.out.1, (show -1 ≤ z ∧ z ≤ 97 by have := HBD.out.2.1; omega), ?_, ?_, by omega, by omega, ?_, ?_⟩
          · intro s hs; have := HBD.out.2.2.1 s hs; omega
          · show u.u.length ≤ 16; omega
          · exact RdAt.set3 (HRb.out.keep (fun k hk => Below.heap_setCell _ _ _ _ (by simp; omega))) (by omega) _ _ _
          · exact Only.set3 (HOb.out.set (.inr (by simp; omega)) _) (Nat.le_refl _) _ _ _
        · have hne : (y == 0) = false := by simpa using hy0
          obtain ⟨b0, b1, b2, f0, f1, f2⟩ := HKa.out.three
          obtain ⟨c0, c1, c2, e0, e1, e2⟩ := HXa.out.three
          go_wp2_with fail
          have hb5 := ((HKa.out.set_ 0 (.int .i64 u.k)).set_ 1 (Value.slice au u.u.length cu)).set_ 2 (.int .i64 u.v)
          obtain ⟨z0, z1, z2, _, _, _⟩ := (show Blk _ w.heap.size 25 #[.int .i64 u.k, Value.slice au u.u.length cu, .int .i64 u.v] from hb5).three
          refine bodyPost_ret (v := .agg #[.int .i64 u.k, Value.slice au u.u.length cu, .int .i64 u.v]) (by simp only [results, Try.results29]; simp [go_sem, z0, z1, z2]) rfl ?_
          have n1 : (Value.slice au u.u.length cu).ownBlock ≠ some w.heap.size := fun e => (HD.out _ e).2 rfl
          refine ⟨⟨u.k, u.u, u.v⟩, _, p3 + 1 + 1, rfl, ownsRow_low (ownsRow_setCell_other (ownsRow_setCell_other (ownsRow_setCell_other HFa.out (a := ⟨w.heap.size, 0, none⟩) n1 _) (a := ⟨w.heap.size, 1, none⟩) n1 _) (a := ⟨w.heap.size, 2, none⟩) n1 _) (by omega), HBD.out.1, (show -1 ≤ u.v ∧ u.v ≤ 97 by have := HBD.out.2.1; omega), ?_, ?_, by omega, by omega, ?_, ?_⟩
          · intro s hs; have := HBD.out.2.2.1 s hs; omega
          · show u.u.length ≤ 16; omega
          · exact RdAt.set3 HRa.out (by omega) _ _ _
          · exact Only.set3 HOa.out (Nat.le_refl _) _ _ _
    · have HN := Lib.hid hn
      clear hn
      go_wp2_with fail
      refine (pick_any _ g _ 5 HRD.out (by omega) (by omega) (by omega)).mono ?_
      rintro e w2 ⟨r, rfl, h0, h1, hrd, ho⟩
      have hr5 := h1 (by omega)
      have hws2 := ho.size
      have HN2 := Lib.hid (HN.out.only ho (by omega))
      have HR2 := Lib.hid hrd
      have HO2 := Lib.hid (HO.out.trans ho)
      have HK2 := Lib.hid (HK.out.only ho (by omega))
      clear h1 hrd ho
      go_wp2_with (at_builtin; refine wpList_append_own _ rfl (.tmp 13) (.tmp 16) 26 rfl (w.heap.size + 1) 3 iN (.int .i64 0) 1 8 Try.underlying26 HIN.out.1 HIN.out.2.1 HIN.out.2.2.1 HIN.out.2.2.2 rfl (by decide) _ l.length (l.map (Value.int .i64)) rfl (HN2.out.alloc _) ⟨w2.heap.size, 0, none⟩ 1 1 [.int .i64 r] rfl rfl ?d1 ?d2 ?d3 ?d4 ?d5 ?_)
      case d1 => exact news1 _ _ _
      case d2 => simp [Value.oneCell']
      case d3 => rw [HML.out]; omega
      case d4 => omega
      case d5 => simp; omega
      intro v2 w3 hown hgr _
      have hge := own_ge HN2.out
      have hN3 : NumRow w3 (w.heap.size + 1) v2 (l ++ [r]) := by
        unfold NumRow
        rw [List.map_append, show (l ++ [r]).length = l.length + 1 by simp]
        exact hown
      have hR3 := (HR2.out.alloc (.cells #[.int .i64 r] 3)).grown hgr (fun k hk => by have := hge k hk; omega)
      have hO3 := only_grown (HO2.out.alloc (.cells #[.int .i64 r] 3)) hgr (fun k hk => by have := hge k hk; omega)
      have hK3 : Blk w3 w.heap.size 25 #[.int .i64 0, .slice none 0 0, .int .i64 0] := (hgr.block w.heap.size (by simp; omega) (by intro e; have := hge _ e.symm; omega)).trans (HK2.out.alloc (.cells #[.int .i64 r] 3))
      have H3 := Lib.hid (And.intro hN3 (And.intro hR3 (And.intro hO3 hK3)))
      clear hown hgr hge hN3 hR3 hO3 hK3
      obtain ⟨q', rfl⟩ : ∃ q', q = q' + 1 := ⟨q - 1, by omega⟩
      go_wp2_with fail
      refine ⟨⟨l ++ [r], q', congrArg (Value.int .i64) (by omega), by simp; omega, H3.out.1, ?_, by rw [show p + 1 + (l ++ [r]).length = p + 1 + l.length + 1 by simp; omega]; exact H3.out.2.1, H3.out.2.2.1, H3.out.2.2.2⟩, ?_⟩
      · intro x hx
        rcases List.mem_append.1 hx with hx | hx
        · exact HB.out x hx
        · simp at hx; omega
      · simp [intOf]
end Go.Proofs.Ytjbggeeadodmpaa
