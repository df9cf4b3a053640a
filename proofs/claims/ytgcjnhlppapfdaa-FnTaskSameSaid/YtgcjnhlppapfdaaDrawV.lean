/- l91Values; DrawTaskValue and its like -/
import Derived.Test.YtgcjnhlppapfdaaDraw4
import Derived.Test.YtgcjnhlppapfdaaRow
namespace Go.Proofs.Ytgcjnhlppapfdaa
open Go.RowKit

theorem only_grown {g : Nat} {w wr w2 : World} {row : Option Nat} (h : Only g w wr) (hg : wr.grownBy w2 row) (hr : ∀ k, row = some k → w.heap.size ≤ k) : Only g w w2 :=
  ⟨hg.os.trans h.os, hg.tape.trans h.tape, hg.output.trans h.output, Nat.le_trans h.size hg.size, fun i hi hne => (hg.block i (Nat.lt_of_lt_of_le hi h.size) (by intro e; have := hr i e.symm; omega)).trans (h.block i hi hne)⟩
theorem RdAt.grown {g p : Nat} {w w2 : World} {row : Option Nat} (h : RdAt w g p) (hg : w.grownBy w2 row) (hr : ∀ k, row = some k → g < k) : RdAt w2 g p :=
  h.keep fun k hk => hg.block k (by have := h.lt; omega) (by intro e; have := hr k e.symm; omega)
theorem NumRow.only {g base : Nat} {w w2 : World} {v : Value} {l : List Int} (h : NumRow w base v l) (ho : Only g w w2) (hg : g < base) : NumRow w2 base v l :=
  World.ownsRow.kept h ho (by
    cases hv : v.ownBlock with
    | none => exact .inl rfl
    | some k => refine .inr ?_; intro e; injection e with e; have := own_ge h k hv; omega)

/-- Values drawn off a code. -/
def ValsD (g p : Nat) (w : World) (e : Ending) (w' : World) : Prop :=
  ∃ (l : List Int) (v : Value) (p' : Nat), e = .returned v ∧ NumRow w' w.heap.size v l ∧ l.length ≤ 12 ∧ (∀ x ∈ l, 0 ≤ x ∧ x ≤ 97) ∧ p ≤ p' ∧ p' ≤ p + 100 ∧ RdAt w' g p' ∧ Only g w w'

set_option maxHeartbeats 2000000 in
theorem vals_any (w : World) (g p : Nat) (hr : RdAt w g p) (hp : p ≤ 990000) : Calls Try.prog 58 #[.pointer (some ⟨g, 0, none⟩)] w (ValsD g p w) := by
  obtain ⟨iN, ni, nz0, nz1, nz2⟩ := info_parts infoInt
  have HIN := Lib.hid (And.intro ni (And.intro nz0 (And.intro nz1 nz2)))
  have hml : maxLen = 9223372036854775807 := rfl
  have HML := Lib.hid hml
  have hgl := hr.lt
  have HR0 := Lib.hid (hr.alloc (.cells #[] 3))
  have HN0 := Lib.hid (rowN_new w)
  have HO0 := Lib.hid ((Only.refl g w).alloc (.cells #[] 3))
  clear ni nz0 nz1 nz2 hml hr
  go_enter Try.func58, Try.ntmps58
  go_wp2_with fail
  refine (pick_any _ g p 11 HR0.out (by omega) (by omega) (by omega)).mono ?_
  rintro e w1 ⟨r, rfl, h0, h1, hrd, ho⟩
  have hr11 := h1 (by omega)
  have HN1 := Lib.hid (HN0.out.only ho hgl)
  have HR1 := Lib.hid hrd
  have HO1 := Lib.hid (HO0.out.trans ho)
  clear h1 hrd ho HR0 HN0 HO0
  go_wp2_with fail
  go_loopw [3, 4] (fun v k wr => ∃ (l : List Int) (q : Nat), k = .int .i64 q ∧ l.length + q ≤ 11 ∧ NumRow wr w.heap.size v l ∧ (∀ x ∈ l, 0 ≤ x ∧ x ≤ 97) ∧ RdAt wr g (p + 1 + l.length) ∧ Only g w wr) (fun _ k _ => (intOf k).toNat)
  case atStart => exact ⟨[], r.toNat, congrArg (Value.int .i64) (by omega), by simp; omega, HN1.out, by simp, HR1.out, HO1.out⟩
  case round =>
    obtain ⟨l, q, rfl, hq, hn, hb, hrd, ho⟩ := hrel
    have HN := Lib.hid hn
    have HB := Lib.hid hb
    have HRD := Lib.hid hrd
    have HO := Lib.hid ho
    have hws := ho.size
    clear hn hb hrd ho
    by_cases hq0 : q = 0
    · subst hq0
      go_wp2_with fail
      refine (pick_any _ g _ 25 HRD.out (by omega) (by omega) (by omega)).mono ?_
      rintro e w2 ⟨r, rfl, h0, h1, hrd, ho⟩
      have hws2 := ho.size
      have HN2 := Lib.hid (HN.out.only ho hgl)
      have HR2 := Lib.hid hrd
      have HO2 := Lib.hid (HO.out.trans ho)
      clear h1 hrd ho
      by_cases hr0 : r = 0
      · subst hr0
        go_wp2_with (at_builtin; refine wpList_append_own _ rfl (.tmp 20) (.tmp 21) 28 rfl w.heap.size 3 iN (.int .i64 0) 1 8 Try.underlying28 HIN.out.1 HIN.out.2.1 HIN.out.2.2.1 HIN.out.2.2.2 rfl (by decide) _ l.length (l.map (Value.int .i64)) rfl (HN2.out.alloc _) ⟨w2.heap.size, 0, none⟩ 1 1 [.int .i64 97] rfl rfl ?d1 ?d2 ?d3 ?d4 ?d5 ?_)
        case d1 => exact news1 _ _ _
        case d2 => simp [Value.oneCell']
        case d3 => rw [HML.out]; omega
        case d4 => omega
        case d5 => simp; omega
        intro v2 w3 hown hgr _
        have hge := own_ge HN2.out
        have hN3 : NumRow w3 w.heap.size v2 (l ++ [97]) := by
          unfold NumRow
          rw [List.map_append, show (l ++ [(97 : Int)]).length = l.length + 1 by simp]
          exact hown
        have hR3 := (HR2.out.alloc (.cells #[.int .i64 97] 3)).grown hgr (fun k hk => by have := hge k hk; omega)
        have hO3 := only_grown (HO2.out.alloc (.cells #[.int .i64 97] 3)) hgr hge
        have H3 := Lib.hid (And.intro hN3 (And.intro hR3 hO3))
        clear hown hgr hge hN3 hR3 hO3
        go_wp2_with fail
        go_ret
        refine ⟨l ++ [97], _, _, rfl, H3.out.1, by simp; omega, ?_, by omega, by omega, H3.out.2.1, H3.out.2.2⟩
        intro x hx
        rcases List.mem_append.1 hx with hx | hx
        · exact HB.out x hx
        · simp at hx; omega
      · have hne : (r == 0) = false := by simpa using hr0
        go_wp2_with fail
        go_ret
        exact ⟨l, _, _, rfl, HN2.out, by omega, HB.out, by omega, by omega, HR2.out, HO2.out⟩
    · go_wp2_with fail
      refine (pick_any _ g _ 5 HRD.out (by omega) (by omega) (by omega)).mono ?_
      rintro e w2 ⟨r, rfl, h0, h1, hrd, ho⟩
      have hr5 := h1 (by omega)
      have hws2 := ho.size
      have HN2 := Lib.hid (HN.out.only ho hgl)
      have HR2 := Lib.hid hrd
      have HO2 := Lib.hid (HO.out.trans ho)
      clear h1 hrd ho
      go_wp2_with (at_builtin; refine wpList_append_own _ rfl (.tmp 12) (.tmp 15) 28 rfl w.heap.size 3 iN (.int .i64 0) 1 8 Try.underlying28 HIN.out.1 HIN.out.2.1 HIN.out.2.2.1 HIN.out.2.2.2 rfl (by decide) _ l.length (l.map (Value.int .i64)) rfl (HN2.out.alloc _) ⟨w2.heap.size, 0, none⟩ 1 1 [.int .i64 r] rfl rfl ?d1 ?d2 ?d3 ?d4 ?d5 ?_)
      case d1 => exact news1 _ _ _
      case d2 => simp [Value.oneCell']
      case d3 => rw [HML.out]; omega
      case d4 => omega
      case d5 => simp; omega
      intro v2 w3 hown hgr _
      have hge := own_ge HN2.out
      have hN3 : NumRow w3 w.heap.size v2 (l ++ [r]) := by
        unfold NumRow
        rw [List.map_append, show (l ++ [r]).length = l.length + 1 by simp]
        exact hown
      have hR3 := (HR2.out.alloc (.cells #[.int .i64 r] 3)).grown hgr (fun k hk => by have := hge k hk; omega)
      have hO3 := only_grown (HO2.out.alloc (.cells #[.int .i64 r] 3)) hgr hge
      have H3 := Lib.hid (And.intro hN3 (And.intro hR3 hO3))
      clear hown hgr hge hN3 hR3 hO3
      obtain ⟨q', rfl⟩ : ∃ q', q = q' + 1 := ⟨q - 1, by omega⟩
      go_wp2_with fail
      refine ⟨⟨l ++ [r], q', congrArg (Value.int .i64) (by omega), by simp; omega, H3.out.1, ?_, by rw [show p + 1 + (l ++ [r]).length = p + 1 + l.length + 1 by simp; omega]; exact H3.out.2.1, H3.out.2.2⟩, ?_⟩
      · intro x hx
        rcases List.mem_append.1 hx with hx | hx
        · exact HB.out x hx
        · simp at hx; omega
      · simp [intOf]

/-- A task and values drawn off a code. -/
def DrawnTV (w : World) (e : Ending) (w' : World) : Prop := ∃ (t : T) (a : Option Addr) (c : Nat) (l : List Int) (v : Value), e = .returned (.tuple #[.agg #[.int .i64 t.k, .int .i64 t.n, .slice a t.ps.length c], v]) ∧ AtS w' (fun b => w.heap.size ≤ b ∧ b < w'.heap.size) t.ps a c ∧
  i64ok t.k ∧ i64ok t.n ∧ t.nodes ≤ 100 ∧ NumRow w' w.heap.size v l ∧ l.length ≤ 12 ∧ (∀ x ∈ l, 0 ≤ x ∧ x ≤ 97) ∧ Below w.heap.size w w'
set_option maxHeartbeats 1000000 in
theorem drawTaskValue_any (w : World) (a : Option Addr) (n c : Nat) (h : CodeAt w a n c) : Calls Try.prog 20 #[.slice a n c] w (DrawnTV w) := by
  have HC := Lib.hid (h.alloc (.cells #[.int .i64 0, .int .i64 0, .slice none 0 0] 25))
  clear h
  go_enter Try.func20, Try.ntmps20
  go_wp2_with fail
  refine (open_any _ a n c HC.out).mono ?_
  rintro e w1 ⟨rfl, hrd, hb⟩
  have hsz1 := hb.size
  simp only [World.size_alloc] at hsz1 hrd hb
  have HK1 := Lib.hid ((Blk.new w 25 #[.int .i64 0, .int .i64 0, .slice none 0 0]).below hb (by omega))
  have HE1 := Lib.hid (And.intro hrd (below_of_box hb))
  have hlt1 : w.heap.size + 1 < w1.heap.size := hrd.lt
  clear hrd hb HC
  go_wp2_with fail
  refine (any_any _ (w.heap.size + 1) 0 ?_ (by omega)).mono ?_
  · exact HE1.out.1
  rintro e w2 ⟨t, a2, c2, p', rfl, hat, ok1, ok2, hm, hp0, hp1, hrd, ho⟩
  have hsz2 := ho.size
  have HK2 := Lib.hid ((HK1.out.only ho (by omega)).alloc (.cells #[.int .i64 t.k, .int .i64 t.n, .slice a2 t.ps.length c2] 25))
  have hB2 : Below w.heap.size w w2 := HE1.out.2.trans ⟨ho.os, ho.tape, ho.output, ho.size, fun k hk => ho.block k (by omega) (by intro e; injection e; omega)⟩
  have HX := Lib.hid (And.intro (hB2.alloc (by omega) (.cells #[.int .i64 t.k, .int .i64 t.n, .slice a2 t.ps.length c2] 25)) (And.intro ((hat.at.alloc (.cells #[.int .i64 t.k, .int .i64 t.n, .slice a2 t.ps.length c2] 25)).lim) (And.intro ok1 ok2)))
  have HT := Lib.hid (Blk.new w2 25 #[.int .i64 t.k, .int .i64 t.n, .slice a2 t.ps.length c2])
  have HR2 := Lib.hid (hrd.alloc (.cells #[.int .i64 t.k, .int .i64 t.n, .slice a2 t.ps.length c2] 25))
  clear hrd ho hB2 HK1 HE1 ok1 ok2 hat
  go_wp2_with fail
  refine (vals_any _ (w.heap.size + 1) p' HR2.out (by omega)).mono ?_
  rintro e w3 ⟨l, v, q, rfl, hn, hl, hlb, _, _, hrd, ho⟩
  have hsz3 := ho.size
  simp only [World.size_alloc] at hsz3 hn
  have hK3 := HK2.out.only ho (by omega)
  have hT3 := HT.out.only ho (by omega)
  have hB3 : Below w.heap.size w w3 := HX.out.1.trans ⟨ho.os, ho.tape, ho.output, ho.size, fun k hk => ho.block k (by simp; omega) (by intro e; injection e; omega)⟩
  have hA3 : AtS w3 (fun b => w.heap.size ≤ b ∧ b < w3.heap.size ∧ b ≠ w.heap.size) t.ps a2 c2 := HX.out.2.1.keep (fun b hb => by simp at hb; omega) (fun b hb hlb => ho.block b hlb (by intro e; injection e with e; simp at hb; omega))
  have H3 := Lib.hid (And.intro hB3 (And.intro hA3 (And.intro (ownsRow_low (b' := w.heap.size) hn (by omega)) hlb)))
  have HN3 := Lib.hid (own_ge hn)
  have HK3 := Lib.hid hK3
  obtain ⟨x0, x1, x2, f0, f1, f2⟩ := hK3.three
  obtain ⟨y0, y1, y2, g0, g1, g2⟩ := hT3.three
  have hz3 : w.heap.size < w3.heap.size := by omega
  obtain ⟨a4, c4, hva, _⟩ := NumRow.at (show NumRow w3 _ v l from hn) (by intro x hx; have := hlb x hx; unfold i64ok; omega)
  subst hva
  clear hn hlb hrd ho hK3 hT3 hB3 hA3 HK2 HT HR2
  go_wp2_with fail
  have hb5 := ((HK3.out.set_ 0 (.int .i64 t.k)).set_ 1 (.int .i64 t.n)).set_ 2 (.slice a2 t.ps.length c2)
  obtain ⟨z0, z1, z2, _, _, _⟩ := (show Blk _ w.heap.size 25 #[.int .i64 t.k, .int .i64 t.n, .slice a2 t.ps.length c2] from hb5).three
  refine bodyPost_ret (v := .tuple #[.agg #[.int .i64 t.k, .int .i64 t.n, .slice a2 t.ps.length c2], .slice a4 l.length c4]) (by simp only [results, Try.results20]; simp [go_sem, z0, z1, z2]) rfl ?_
  have hne : (Value.slice a4 l.length c4).ownBlock ≠ some w.heap.size := fun e => by have := HN3.out _ e; omega
  refine ⟨t, a2, c2, l, _, rfl, ?_, HX.out.2.2.1, HX.out.2.2.2, hm, ?_, hl, H3.out.2.2.2, ?_⟩
  · exact (((H3.out.2.1.setCell (by intro b hb; simp; omega) _).setCell (by intro b hb; simp; omega) _).setCell (by intro b hb; simp; omega) _).weaken (by intro b hb; simp; omega)
  · exact ownsRow_setCell_other (ownsRow_setCell_other (ownsRow_setCell_other H3.out.2.2.1 (a := ⟨w.heap.size, 0, none⟩) hne _) (a := ⟨w.heap.size, 1, none⟩) hne _) (a := ⟨w.heap.size, 2, none⟩) hne _
  · exact ((H3.out.1.setCell (Nat.le_refl _) _).setCell (Nat.le_refl _) _).setCell (Nat.le_refl _) _
set_option maxHeartbeats 1000000 in
theorem drawTaskFetches_any (w : World) (a : Option Addr) (n c : Nat) (h : CodeAt w a n c) : Calls Try.prog 24 #[.slice a n c] w (DrawnTV w) := by
  have HC := Lib.hid (h.alloc (.cells #[.int .i64 0, .int .i64 0, .slice none 0 0] 25))
  clear h
  go_enter Try.func24, Try.ntmps24
  go_wp2_with fail
  refine (open_any _ a n c HC.out).mono ?_
  rintro e w1 ⟨rfl, hrd, hb⟩
  have hsz1 := hb.size
  simp only [World.size_alloc] at hsz1 hrd hb
  have HK1 := Lib.hid ((Blk.new w 25 #[.int .i64 0, .int .i64 0, .slice none 0 0]).below hb (by omega))
  have HE1 := Lib.hid (And.intro hrd (below_of_box hb))
  have hlt1 : w.heap.size + 1 < w1.heap.size := hrd.lt
  clear hrd hb HC
  go_wp2_with fail
  refine (any_any _ (w.heap.size + 1) 0 ?_ (by omega)).mono ?_
  · exact HE1.out.1
  rintro e w2 ⟨t, a2, c2, p', rfl, hat, ok1, ok2, hm, hp0, hp1, hrd, ho⟩
  have hsz2 := ho.size
  have HK2 := Lib.hid ((HK1.out.only ho (by omega)).alloc (.cells #[.int .i64 t.k, .int .i64 t.n, .slice a2 t.ps.length c2] 25))
  have hB2 : Below w.heap.size w w2 := HE1.out.2.trans ⟨ho.os, ho.tape, ho.output, ho.size, fun k hk => ho.block k (by omega) (by intro e; injection e; omega)⟩
  have HX := Lib.hid (And.intro (hB2.alloc (by omega) (.cells #[.int .i64 t.k, .int .i64 t.n, .slice a2 t.ps.length c2] 25)) (And.intro ((hat.at.alloc (.cells #[.int .i64 t.k, .int .i64 t.n, .slice a2 t.ps.length c2] 25)).lim) (And.intro ok1 ok2)))
  have HT := Lib.hid (Blk.new w2 25 #[.int .i64 t.k, .int .i64 t.n, .slice a2 t.ps.length c2])
  have HR2 := Lib.hid (hrd.alloc (.cells #[.int .i64 t.k, .int .i64 t.n, .slice a2 t.ps.length c2] 25))
  clear hrd ho hB2 HK1 HE1 ok1 ok2 hat
  go_wp2_with fail
  refine (vals_any _ (w.heap.size + 1) p' HR2.out (by omega)).mono ?_
  rintro e w3 ⟨l, v, q, rfl, hn, hl, hlb, _, _, hrd, ho⟩
  have hsz3 := ho.size
  simp only [World.size_alloc] at hsz3 hn
  have hK3 := HK2.out.only ho (by omega)
  have hT3 := HT.out.only ho (by omega)
  have hB3 : Below w.heap.size w w3 := HX.out.1.trans ⟨ho.os, ho.tape, ho.output, ho.size, fun k hk => ho.block k (by simp; omega) (by intro e; injection e; omega)⟩
  have hA3 : AtS w3 (fun b => w.heap.size ≤ b ∧ b < w3.heap.size ∧ b ≠ w.heap.size) t.ps a2 c2 := HX.out.2.1.keep (fun b hb => by simp at hb; omega) (fun b hb hlb => ho.block b hlb (by intro e; injection e with e; simp at hb; omega))
  have H3 := Lib.hid (And.intro hB3 (And.intro hA3 (And.intro (ownsRow_low (b' := w.heap.size) hn (by omega)) hlb)))
  have HN3 := Lib.hid (own_ge hn)
  have HK3 := Lib.hid hK3
  obtain ⟨x0, x1, x2, f0, f1, f2⟩ := hK3.three
  obtain ⟨y0, y1, y2, g0, g1, g2⟩ := hT3.three
  have hz3 : w.heap.size < w3.heap.size := by omega
  obtain ⟨a4, c4, hva, _⟩ := NumRow.at (show NumRow w3 _ v l from hn) (by intro x hx; have := hlb x hx; unfold i64ok; omega)
  subst hva
  clear hn hlb hrd ho hK3 hT3 hB3 hA3 HK2 HT HR2
  go_wp2_with fail
  have hb5 := ((HK3.out.set_ 0 (.int .i64 t.k)).set_ 1 (.int .i64 t.n)).set_ 2 (.slice a2 t.ps.length c2)
  obtain ⟨z0, z1, z2, _, _, _⟩ := (show Blk _ w.heap.size 25 #[.int .i64 t.k, .int .i64 t.n, .slice a2 t.ps.length c2] from hb5).three
  refine bodyPost_ret (v := .tuple #[.agg #[.int .i64 t.k, .int .i64 t.n, .slice a2 t.ps.length c2], .slice a4 l.length c4]) (by simp only [results, Try.results24]; simp [go_sem, z0, z1, z2]) rfl ?_
  have hne : (Value.slice a4 l.length c4).ownBlock ≠ some w.heap.size := fun e => by have := HN3.out _ e; omega
  refine ⟨t, a2, c2, l, _, rfl, ?_, HX.out.2.2.1, HX.out.2.2.2, hm, ?_, hl, H3.out.2.2.2, ?_⟩
  · exact (((H3.out.2.1.setCell (by intro b hb; simp; omega) _).setCell (by intro b hb; simp; omega) _).setCell (by intro b hb; simp; omega) _).weaken (by intro b hb; simp; omega)
  · exact ownsRow_setCell_other (ownsRow_setCell_other (ownsRow_setCell_other H3.out.2.2.1 (a := ⟨w.heap.size, 0, none⟩) hne _) (a := ⟨w.heap.size, 1, none⟩) hne _) (a := ⟨w.heap.size, 2, none⟩) hne _
  · exact ((H3.out.1.setCell (Nat.le_refl _) _).setCell (Nat.le_refl _) _).setCell (Nat.le_refl _) _
set_option maxHeartbeats 1000000 in
theorem drawTaskUses_any (w : World) (a : Option Addr) (n c : Nat) (h : CodeAt w a n c) : Calls Try.prog 27 #[.slice a n c] w (DrawnTV w) := by
  have HC := Lib.hid (h.alloc (.cells #[.int .i64 0, .int .i64 0, .slice none 0 0] 25))
  clear h
  go_enter Try.func27, Try.ntmps27
  go_wp2_with fail
  refine (open_any _ a n c HC.out).mono ?_
  rintro e w1 ⟨rfl, hrd, hb⟩
  have hsz1 := hb.size
  simp only [World.size_alloc] at hsz1 hrd hb
  have HK1 := Lib.hid ((Blk.new w 25 #[.int .i64 0, .int .i64 0, .slice none 0 0]).below hb (by omega))
  have HE1 := Lib.hid (And.intro hrd (below_of_box hb))
  have hlt1 : w.heap.size + 1 < w1.heap.size := hrd.lt
  clear hrd hb HC
  go_wp2_with fail
  refine (any_any _ (w.heap.size + 1) 0 ?_ (by omega)).mono ?_
  · exact HE1.out.1
  rintro e w2 ⟨t, a2, c2, p', rfl, hat, ok1, ok2, hm, hp0, hp1, hrd, ho⟩
  have hsz2 := ho.size
  have HK2 := Lib.hid ((HK1.out.only ho (by omega)).alloc (.cells #[.int .i64 t.k, .int .i64 t.n, .slice a2 t.ps.length c2] 25))
  have hB2 : Below w.heap.size w w2 := HE1.out.2.trans ⟨ho.os, ho.tape, ho.output, ho.size, fun k hk => ho.block k (by omega) (by intro e; injection e; omega)⟩
  have HX := Lib.hid (And.intro (hB2.alloc (by omega) (.cells #[.int .i64 t.k, .int .i64 t.n, .slice a2 t.ps.length c2] 25)) (And.intro ((hat.at.alloc (.cells #[.int .i64 t.k, .int .i64 t.n, .slice a2 t.ps.length c2] 25)).lim) (And.intro ok1 ok2)))
  have HT := Lib.hid (Blk.new w2 25 #[.int .i64 t.k, .int .i64 t.n, .slice a2 t.ps.length c2])
  have HR2 := Lib.hid (hrd.alloc (.cells #[.int .i64 t.k, .int .i64 t.n, .slice a2 t.ps.length c2] 25))
  clear hrd ho hB2 HK1 HE1 ok1 ok2 hat
  go_wp2_with fail
  refine (vals_any _ (w.heap.size + 1) p' HR2.out (by omega)).mono ?_
  rintro e w3 ⟨l, v, q, rfl, hn, hl, hlb, _, _, hrd, ho⟩
  have hsz3 := ho.size
  simp only [World.size_alloc] at hsz3 hn
  have hK3 := HK2.out.only ho (by omega)
  have hT3 := HT.out.only ho (by omega)
  have hB3 : Below w.heap.size w w3 := HX.out.1.trans ⟨ho.os, ho.tape, ho.output, ho.size, fun k hk => ho.block k (by simp; omega) (by intro e; injection e; omega)⟩
  have hA3 : AtS w3 (fun b => w.heap.size ≤ b ∧ b < w3.heap.size ∧ b ≠ w.heap.size) t.ps a2 c2 := HX.out.2.1.keep (fun b hb => by simp at hb; omega) (fun b hb hlb => ho.block b hlb (by intro e; injection e with e; simp at hb; omega))
  have H3 := Lib.hid (And.intro hB3 (And.intro hA3 (And.intro (ownsRow_low (b' := w.heap.size) hn (by omega)) hlb)))
  have HN3 := Lib.hid (own_ge hn)
  have HK3 := Lib.hid hK3
  obtain ⟨x0, x1, x2, f0, f1, f2⟩ := hK3.three
  obtain ⟨y0, y1, y2, g0, g1, g2⟩ := hT3.three
  have hz3 : w.heap.size < w3.heap.size := by omega
  obtain ⟨a4, c4, hva, _⟩ := NumRow.at (show NumRow w3 _ v l from hn) (by intro x hx; have := hlb x hx; unfold i64ok; omega)
  subst hva
  clear hn hlb hrd ho hK3 hT3 hB3 hA3 HK2 HT HR2
  go_wp2_with fail
  have hb5 := ((HK3.out.set_ 0 (.int .i64 t.k)).set_ 1 (.int .i64 t.n)).set_ 2 (.slice a2 t.ps.length c2)
  obtain ⟨z0, z1, z2, _, _, _⟩ := (show Blk _ w.heap.size 25 #[.int .i64 t.k, .int .i64 t.n, .slice a2 t.ps.length c2] from hb5).three
  refine bodyPost_ret (v := .tuple #[.agg #[.int .i64 t.k, .int .i64 t.n, .slice a2 t.ps.length c2], .slice a4 l.length c4]) (by simp only [results, Try.results27]; simp [go_sem, z0, z1, z2]) rfl ?_
  have hne : (Value.slice a4 l.length c4).ownBlock ≠ some w.heap.size := fun e => by have := HN3.out _ e; omega
  refine ⟨t, a2, c2, l, _, rfl, ?_, HX.out.2.2.1, HX.out.2.2.2, hm, ?_, hl, H3.out.2.2.2, ?_⟩
  · exact (((H3.out.2.1.setCell (by intro b hb; simp; omega) _).setCell (by intro b hb; simp; omega) _).setCell (by intro b hb; simp; omega) _).weaken (by intro b hb; simp; omega)
  · exact ownsRow_setCell_other (ownsRow_setCell_other (ownsRow_setCell_other H3.out.2.2.1 (a := ⟨w.heap.size, 0, none⟩) hne _) (a := ⟨w.heap.size, 1, none⟩) hne _) (a := ⟨w.heap.size, 2, none⟩) hne _
  · exact ((H3.out.1.setCell (Nat.le_refl _) _).setCell (Nat.le_refl _) _).setCell (Nat.le_refl _) _
end Go.Proofs.Ytgcjnhlppapfdaa
