/- spec.l3Build.key -/
import Derived.Test.YtjakhiafkjaghaaGreatShG
import Derived.Test.YtjakhiafkjaghaaGreatBs1
namespace Go.Proofs.YtjakhiafkjaghaaGreat
open Go.RowKit

/-- The builder in block q: a sheet, inputs, what is under, the circle. -/
def BdAt (w : World) (q : Nat) (s : Sh) (l : List Int) (a : Option Addr) (c : Nat) (a' : Option Addr) (c' : Nat) (ai : Option Addr) (ci : Nat) (uv cv : Value) : Prop :=
  Blk w q 109 #[.slice a s.m.length c, .slice a' s.t.length c', .slice ai l.length ci, uv, cv]
theorem Blk.five {w : World} {g : Nat} {t : TypeId} {x0 x1 x2 x3 x4 : Value} (h : Blk w g t #[x0, x1, x2, x3, x4]) : w.cell? ⟨g, 0, none⟩ = some x0 ∧ w.cell? ⟨g, 1, none⟩ = some x1 ∧ w.cell? ⟨g, 2, none⟩ = some x2 ∧ w.cell? ⟨g, 3, none⟩ = some x3 ∧ w.cell? ⟨g, 4, none⟩ = some x4 ∧
    ∀ j, w.frozen? ⟨g, j, none⟩ = false := ⟨h.cell 0, h.cell 1, h.cell 2, h.cell 3, h.cell 4, h.frozen⟩

/-- What the building of a key leaves. -/
def KeyPost (s : Sh) (l : List Int) (q : Nat) (a : Option Addr) (c : Nat) (a' : Option Addr) (c' : Nat) (ai : Option Addr) (ci : Nat) (uv cv : Value) (U : List Int) (k : Int) (w : World) (e : Ending) (w' : World) : Prop :=
  ∃ (uv' cv' : Value) (v : Int) (b : Bool), e = .returned (.tuple #[.int .i64 v, .bool b]) ∧ BdAt w' q s l a c a' c' ai ci uv' cv' ∧ NumRow w' (q + 1) uv' U ∧ Fr (fun b => b = q ∨ uv.ownBlock = some b) w w' ∧
    (∀ b, uv'.ownBlock = some b → uv.ownBlock = some b ∨ w.heap.size ≤ b) ∧
    ((b = true ∧ okS s l k = true ∧ v = vsS s l k ∧ cv' = cv) ∨ (b = false ∧ okS s l k = false ∧ NumRow w' w.heap.size cv' (circ s.m.length (chS s l) (okS s l) U k)))

/-- Where the building of a key begins. -/
structure KeyPre (S S' : Nat → Prop) (s : Sh) (l : List Int) (q : Nat) (a : Option Addr) (c : Nat) (a' : Option Addr) (c' : Nat) (ai : Option Addr) (ci : Nat) (uv cv : Value) (U : List Int) (k : Int) (w : World) : Prop where
  inn : inOk s l = true
  sh : ShAt w S s a c a' c'
  il : IntsAt w S' l ai ci
  lo : ∀ b, S b → b < q
  lo' : ∀ b, S' b → b < q
  bd : BdAt w q s l a c a' c' ai ci uv cv
  un : NumRow w (q + 1) uv U
  k0 : 0 ≤ k
  k9 : k ≤ 9
  hyp : Hyp (fun k => !s.mdI k) (okS s l) (rkV s.mdI s.tkI (vf l)) U k
  nod : U.Nodup

def KeyT (S S' : Nat → Prop) (s : Sh) (l : List Int) (q : Nat) (a : Option Addr) (c : Nat) (a' : Option Addr) (c' : Nat) (ai : Option Addr) (ci : Nat) (r : Nat) : Prop :=
  ∀ (uv cv : Value) (U : List Int) (k : Int) (w : World), U.length + r = s.m.length + 1 → KeyPre S S' s l q a c a' c' ai ci uv cv U k w →
    Calls Tryz.prog 74 #[.pointer (some ⟨q, 0, none⟩), .int .i64 k] w (KeyPost s l q a c a' c' ai ci uv cv U k w)

section
variable {S S' : Nat → Prop} {s : Sh} {l : List Int} {q : Nat} {a : Option Addr} {c : Nat} {a' : Option Addr} {c' : Nat} {ai : Option Addr} {ci : Nat} {uv cv : Value} {U : List Int} {k : Int} {w : World}

/-- Nothing has turned. -/
theorem KeyPre.same (h : KeyPre S S' s l q a c a' c' ai ci uv cv U k w) {v : Int} (ho : okS s l k = true) (hv : v = vsS s l k) : KeyPost s l q a c a' c' ai ci uv cv U k w (.returned (.tuple #[.int .i64 v, .bool true])) w :=
  ⟨uv, cv, v, true, rfl, h.bd, h.un, Fr.of_below (Below.refl _ _), fun _ hb => .inl hb, .inl ⟨rfl, ho, hv, rfl⟩⟩

theorem key_far (hp : KeyPre S S' s l q a c a' c' ai ci uv cv U k w) (hk : (s.m.length : Int) ≤ k) :
    Calls Tryz.prog 74 #[.pointer (some ⟨q, 0, none⟩), .int .i64 k] w (KeyPost s l q a c a' c' ai ci uv cv U k w) := by
  have H := Lib.hid hp
  obtain ⟨x0, x1, x2, x3, x4, _⟩ := Blk.five hp.bd
  obtain ⟨h1, h2, h3⟩ := inOk_of hp.inn
  have hmf : s.mdI k = false := by
    cases hx : s.mdI k
    · rfl
    · have := mdI_bd hx; omega
  have hlm : s.m.length ≤ 10 := (Sh.ok_iff.1 h1).1
  have k0 := hp.k0
  have k9 := hp.k9
  have HO := Lib.hid (show okS s l k = true from (gr_S h1 l).d0ok k (by simp only [hmf]; rfl))
  have HV := Lib.hid (show (0 : Int) = vsS s l k by rw [vsS_free h1 hmf, vf_far (by omega)])
  have hd : decide (((s.m.length : Nat) : Int) ≤ k) = true := decide_eq_true hk
  clear hp h1 h2 h3 hmf
  go_enter Tryz.func74, Tryz.ntmps74
  go_wp2_with fail
  go_ret2
  exact H.out.same HO.out HV.out

theorem key_in (hp : KeyPre S S' s l q a c a' c' ai ci uv cv U k w) (hk : k < s.m.length) (hmf : s.mdI k = false) :
    Calls Tryz.prog 74 #[.pointer (some ⟨q, 0, none⟩), .int .i64 k] w (KeyPost s l q a c a' c' ai ci uv cv U k w) := by
  have H := Lib.hid hp
  obtain ⟨x0, x1, x2, x3, x4, _⟩ := Blk.five hp.bd
  obtain ⟨h1, h2, h3⟩ := inOk_of hp.inn
  obtain ⟨kn, rfl⟩ : ∃ kn : Nat, k = kn := ⟨k.toNat, by have := hp.k0; omega⟩
  have hkn : kn < s.m.length := by omega
  have hlm : s.m.length ≤ 10 := (Sh.ok_iff.1 h1).1
  have HO := Lib.hid (show okS s l kn = true from (gr_S h1 l).d0ok kn (by simp only [hmf]; rfl))
  have hkl : kn < l.length := by omega
  obtain ⟨b, o, ha, _, _, hc⟩ := ElAt.get hp.sh.1 (Below.refl _ _) hkn
  obtain ⟨bi, oi, hai, _, _, hci⟩ := hp.il.get (Below.refl _ _) hkl
  have hmk : s.m[kn] = false := by rw [mdI_nat] at hmf; unfold Sh.md at hmf; rwa [getD_len hkn] at hmf
  rw [hmk] at hc
  obtain ⟨v, hv⟩ : ∃ v, v = l[kn] := ⟨_, rfl⟩
  rw [← hv] at hci
  have HV := Lib.hid (show v = vsS s l kn by rw [vsS_free h1 hmf, vf_in hkl, hv])
  have HA := Lib.hid (And.intro ha hai)
  have HL := Lib.hid h2
  clear hp h1 h3 hmf hk ha hai hmk hv h2
  obtain ⟨rfl, rfl⟩ := HA.out
  go_enter Tryz.func74, Tryz.ntmps74
  go_wp2_with fail
  go_ret2
  exact H.out.same HO.out HV.out

theorem KeyPre.undB (h : KeyPre S S' s l q a c a' c' ai ci uv cv U k w) : ∀ u ∈ U, 0 ≤ u ∧ u < s.m.length := fun u hu => mdI_bd (by
  have := (h.hyp u hu).1
  simpa using this)
theorem KeyPre.undL (h : KeyPre S S' s l q a c a' c' ai ci uv cv U k w) : U.length ≤ s.m.length := nodup_bound _ U h.nod h.undB

set_option maxRecDepth 100000 in
set_option maxHeartbeats 2000000 in
theorem key_circ (hp : KeyPre S S' s l q a c a' c' ai ci uv cv U k w) (hmk : s.mdI k = true) (hU : k ∈ U) :
    Calls Tryz.prog 74 #[.pointer (some ⟨q, 0, none⟩), .int .i64 k] w (KeyPost s l q a c a' c' ai ci uv cv U k w) := by
  have H := Lib.hid hp
  obtain ⟨x0, x1, x2, x3, x4, hfz⟩ := Blk.five hp.bd
  have f4 := hfz 4
  obtain ⟨h1, h2, h3⟩ := inOk_of hp.inn
  obtain ⟨kn, rfl⟩ : ∃ kn : Nat, k = kn := ⟨k.toNat, by have := hp.k0; omega⟩
  have hkn : kn < s.m.length := by have := (mdI_bd hmk).2; omega
  have hlm : s.m.length ≤ 10 := (Sh.ok_iff.1 h1).1
  obtain ⟨b, o, ha, _, _, hc⟩ := ElAt.get hp.sh.1 (Below.refl _ _) hkn
  have hmd : s.m[kn] = true := by rw [mdI_nat] at hmk; unfold Sh.md at hmk; rwa [getD_len hkn] at hmk
  rw [hmd] at hc
  have hUl := hp.undL
  have hUp : 0 < U.length := List.length_pos_of_mem hU
  obtain ⟨gu, cap, he⟩ := own_some hp.un hUp
  have hUb := hp.undB
  have HNO := Lib.hid (hp.hyp.not hU)
  have HCI := Lib.hid (circ_in (ch := chS s l) (ok := okS s l) (n := s.m.length) hUl hU)
  have HA := Lib.hid ha
  have HU := Lib.hid hU
  have HUB := Lib.hid hUb
  have hql : q < w.heap.size := hp.bd.lt
  have HUN := Lib.hid hp.un
  have HBD := Lib.hid hp.bd
  clear hp h1 h2 h3 ha hmd hmk hU hUb hfz
  obtain rfl := HA.out
  subst he
  have hgu := (World.ownsRow.lt HUN.out gu rfl)
  have hcap : U.length ≤ cap ∧ cap ≤ 9223372036854775807 := by
    obtain ⟨_, ⟨hx, _⟩ | ⟨gb', cap', cur, hx, _, _, h1, h2, _⟩⟩ := HUN.out
    · cases hx
    · simp only [Value.slice.injEq] at hx
      obtain ⟨_, _, rfl⟩ := hx
      exact ⟨h1, h2⟩
  have hcell : ∀ i (hi : i < U.length), w.cell? ⟨gu, i, none⟩ = some (.int .i64 U[i]) := fun i hi => by
    have hc := World.ownsRow.cells HUN.out (g := gu) rfl i (.int .i64 U[i]) (by rw [List.getElem?_map, List.getElem?_eq_getElem hi]; rfl)
    rwa [addr0] at hc
  have HC := Lib.hid hcell
  clear hcell
  go_enter Tryz.func74, Tryz.ntmps74
  go_wp2_with fail
  go_loop [6] (fun i => ∃ j : Nat, j ≤ U.length ∧ i = .int .i64 j ∧ ¬ (kn : Int) ∈ U.take j) (fun i => U.length - (intOf i).toNat)
  case atStart => exact ⟨0, by omega, rfl, by simp⟩
  case round =>
    obtain ⟨j, hj, rfl, hnot⟩ := hrel
    have HNOT := Lib.hid hnot
    clear hnot
    by_cases hlt : j < U.length
    · have hx := HC.out j hlt
      have hub := HUB.out U[j] (List.getElem_mem _)
      obtain ⟨u, hu⟩ : ∃ u : Nat, U[j] = (u : Int) := ⟨U[j].toNat, by omega⟩
      rw [hu] at hx
      have HX := Lib.hid hu
      clear hub hu
      by_cases hk : u = kn
      · subst hk
        obtain ⟨iN, ni, nz0, nz1, nz2⟩ := info_parts infoInt
        have HIN := Lib.hid (And.intro ni (And.intro nz0 (And.intro nz1 nz2)))
        have HR0 := Lib.hid (rowN_new w)
        have hjn := hgu.2
        have hmle : maxLen = 9223372036854775807 := rfl
        have HML := Lib.hid hmle
        have hidx : U.idxOf (u : Int) = j := by
          have hlt2 := List.idxOf_lt_length_of_mem HU.out
          have he : U[U.idxOf (u : Int)]'hlt2 = (u : Int) := List.getElem_idxOf hlt2
          exact nodup_inj H.out.nod (he.trans HX.out.symm)
        have HCJ := Lib.hid (show circ s.m.length (chS s l) (okS s l) U (u : Int) = U.drop j by rw [HCI.out, hidx])
        clear ni nz0 nz1 nz2 hmle hidx
        go_wp2_with (at_builtin; refine wpList_append_row _ rfl (.tmp 56) (.tmp 62) 26 rfl w.heap.size 3 iN (.int .i64 0) 1 8 Tryz.underlying26 HIN.out.1 HIN.out.2.1 HIN.out.2.2.1 HIN.out.2.2.2 rfl (by decide) _ 0 [] rfl HR0.out ⟨gu, j, none⟩ (U.length - j) (cap - j) ((U.drop j).map (.int .i64)) rfl ?d0 ?d1 ?d2 ?d3 ?d4 ?d5 ?d6 ?_)
        case d1 =>
          intro i x hx
          obtain ⟨hlt3, rfl⟩ := List.getElem?_eq_some_iff.1 hx
          exact HC.out (j + i) hlt3
        case d2 => intro x hx; obtain ⟨y, _, rfl⟩ := List.mem_map.1 (List.mem_of_mem_drop hx); simp [Value.oneCell']
        case d3 => omega
        case d4 => rw [HML.out]; omega
        case d5 => omega
        intro v2 w3 hown hgr hnew
        have hb3 : Below w.heap.size w w3 := ((Below.refl w.heap.size w).alloc (Nat.le_refl _) (.cells #[] 3)).trans (below_grown hgr (by simp) (by intro k hk; simp [Value.ownBlock] at hk; omega))
        have hbd3 := HBD.out.below hb3 hql
        obtain ⟨y0, y1, y2, y3, y4, hfz⟩ := Blk.five hbd3
        have g4 := hfz 4
        have hrow : NumRow w3 w.heap.size v2 (circ s.m.length (chS s l) (okS s l) U (u : Int)) := by
          rw [HCJ.out]
          unfold NumRow
          rw [List.length_drop]
          simpa using hown
        have hvb : ∀ k, v2.ownBlock = some k → w.heap.size ≤ k := own_ge hown
        have H3 := Lib.hid (And.intro hb3 (And.intro hbd3 (And.intro hrow hvb)))
        have hq3 : q < w3.heap.size := hbd3.lt
        obtain ⟨a5, c5, rfl, _⟩ := ElRow.at (f := Value.int .i64) (e := 3) hrow
        clear hown hgr hnew hb3 hbd3 hrow hvb hfz x0 x1 x2 x3 x4 f4 hc hx
        go_wp2_with fail
        go_ret2
        have hfr : Fr (fun b => b = q ∨ (Value.slice (some ⟨gu, 0, none⟩) U.length cap).ownBlock = some b) w w3 := Fr.of_below H3.out.1
        have hun := ElRow.below (f := Value.int .i64) (e := 3) HUN.out H3.out.1
        have hfq : Fr (fun b => b = q) w3 (w3.setCell ⟨q, 4, none⟩ (.slice a5 (circ s.m.length (chS s l) (okS s l) U (u : Int)).length c5)) := Fr.set' (D := fun b => b = q) (Fr.of_below (Below.refl _ _)) ⟨q, 4, none⟩ rfl _
        refine ⟨_, _, 0, false, rfl, H3.out.2.1.set_ 4 _, ElRow.fr (f := Value.int .i64) (e := 3) hun hfq (fun b hb => by omega), hfr.set' ⟨q, 4, none⟩ (.inl rfl) _, fun _ hb => .inl hb, .inr ⟨rfl, HNO.out, ElRow.fr (f := Value.int .i64) (e := 3) H3.out.2.2.1 hfq (fun b hb => by omega)⟩⟩
      · have hne : ((u : Int) == (kn : Int)) = false := by
          cases hx : ((u : Int) == (kn : Int))
          · rfl
          · rw [beq_iff_eq] at hx; omega
        have HNS := Lib.hid (show ¬ (kn : Int) ∈ U.take (j + 1) by
          rw [List.take_succ_eq_append_getElem hlt, List.mem_append, List.mem_singleton]
          rintro (h | h)
          · exact HNOT.out h
          · rw [HX.out] at h; omega)
        clear hk
        go_wp2_with fail
        go_round
        case rel => exact ⟨j + 1, by omega, by go_num, HNS.out⟩
        case measure => simp [intOf]; omega
    · exfalso
      have := HNOT.out
      rw [List.take_of_length_le (by omega)] at this
      exact this HU.out
end
end Go.Proofs.YtjakhiafkjaghaaGreat
