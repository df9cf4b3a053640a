/- several texts in one (made by bundle.py): Open, RowKit, OpenCode, SheetD, DrawSh, BuildI, BuildS, AllS, AllI, SafeI, Bnds, LawDSafe, SheetSafe -/
import Derived.Test.YtohogojphnlhpaaRows
import Derived.Test.YtohogojphnlhpaaTree
import Derived.ProofKit
import Derived.Lib.SmallJoins
import Derived.Deep.Slices
import Derived.Test.YtohogojphnlhpaaDraw4
import Derived.Test.YtohogojphnlhpaaShL
import Derived.Test.YtohogojphnlhpaaShG
import Derived.Test.YtohogojphnlhpaaKeyM
import Derived.Test.YtohogojphnlhpaaFromS
import Derived.Test.YtohogojphnlhpaaSafeS
import Derived.Deep.RegionWith
import Derived.Laws.OwnMore
/- A task that came in as an argument: its reading opened to a tree -/
namespace Go.Proofs.Ytohogojphnlhpaa
open Go.ChangeShapes Go.WideShapes Go.ChangeAt Go.RowKit Go.Joins

theorem i64ok_of {n : Int} (h : (Lit.int .i64 n).wf = true) : i64ok n := by
  have := WalkArith.wf_i64 (n := n)
  unfold i64ok
  simp [Lit.wf] at h
  exact ⟨h.1, by omega⟩

theorem AtL.of_each {w : World} {S : Nat → Prop} {b o : Nat} : ∀ n, (∀ i, i < n → ∃ t, AtC w S t b (o + 3 * i)) → ∃ ps : List T, ps.length = n ∧ AtL w S ps b o
  | 0, _ => ⟨[], rfl, by simp [AtL]⟩
  | n + 1, h => by
    obtain ⟨ps, hl, hat⟩ := AtL.of_each n (fun i hi => h i (by omega))
    obtain ⟨t, ht⟩ := h n (by omega)
    exact ⟨ps ++ [t], by simp [hl], AtL.snoc hat (by rw [hl]; exact ht)⟩

section
variable {H : Type} {enc : TypeId × Value → H} {P : Program} {w : World} {base : Nat} {spare : Nat → Bool} {held : Bool} {tS tE tI : TypeId} {f0 f1 f2 : Field}

theorem open_tasks (hI : P.underlying tI = some (.int .i64)) (hcI : P.cellsOf tI = 1) (hS : P.underlying tS = some (.slice tE)) (hcS : P.cellsOf tS = 1) (hE : P.underlying tE = some (.struct #[f0, f1, f2])) (hC : P.cellsOf tE = 3)
    (h0 : f0.type = tI ∧ f0.offset = 0) (h1 : f1.type = tI ∧ f1.offset = 1) (h2 : f2.type = tS ∧ f2.offset = 2) :
    ∀ (fuel : Nat) (v : Value) (x : DataW H × List MemPlace), DataW.trod enc P w base spare held fuel tS [v] = some x → ∃ ps a c, v = .slice a (List.length ps) c ∧ AtS w (fun _ => True) ps a c := by
  intro fuel
  induction fuel using Nat.strongRecOn with
  | _ fuel ih =>
  intro v x h
  rcases DataW.trod_slice hS h with ⟨hv, _⟩ | ⟨a, len, cap, elems, rest, n, hf, hv, _, _, hl, hm, hlen, hel, _, _⟩
  · simp only [List.cons.injEq, and_true] at hv
    exact ⟨[], none, 0, by simpa using hv, by simp [AtS]⟩
  simp only [List.cons.injEq, and_true] at hv
  subst hv
  have hm' : cap ≤ 9223372036854775807 := hm
  by_cases hz : len = 0
  · subst hz
    exact ⟨[], some a, cap, rfl, by simp, hm', .inl rfl⟩
  have each : ∀ i, i < len → ∃ k m ps a' c', i64ok k ∧ i64ok m ∧ w.cell? (a.add (i * 3)) = some (.int .i64 k) ∧ w.cell? (a.add (i * 3 + 1)) = some (.int .i64 m) ∧ w.cell? (a.add (i * 3 + 2)) = some (.slice a' (List.length ps) c') ∧ AtS w (fun _ => True) ps a' c' := by
    intro i hi
    have he := hel i hi
    rw [hC] at he
    have hs : elems[i]? = some (elems[i]'(by omega)) := List.getElem?_eq_getElem (by omega)
    rw [hs, Option.bind_eq_some_iff] at he
    obtain ⟨cs, hcs, htr⟩ := he
    obtain ⟨_, hcl, hat⟩ := World.cells?_some hcs
    obtain ⟨c0, c1, c2, rfl⟩ : ∃ c0 c1 c2, cs = [c0, c1, c2] := by
      match cs, hcl with
      | [c0, c1, c2], _ => exact ⟨c0, c1, c2, rfl⟩
    obtain ⟨ys, n', hn', _, _, hyl, hfd⟩ := DataW.trod_struct hE htr
    have y0 := hfd 0 f0 rfl
    have y1 := hfd 1 f1 rfl
    have y2 := hfd 2 f2 rfl
    rw [h0.1, h0.2, hcI, List.getElem?_eq_getElem (by simp at hyl; omega)] at y0
    rw [h1.1, h1.2, hcI, List.getElem?_eq_getElem (by simp at hyl; omega)] at y1
    rw [h2.1, h2.2, hcS, List.getElem?_eq_getElem (by simp at hyl; omega)] at y2
    obtain ⟨k, e0, _, wk⟩ := DataW.trod_int hI y0
    obtain ⟨m, e1, _, wm⟩ := DataW.trod_int hI y1
    obtain ⟨ps, a', c', e2, hps⟩ := ih n' (by omega) c2 _ y2
    simp at e0 e1
    subst e0 e1 e2
    have g0 := hat 0 (by omega)
    have g1 := hat 1 (by omega)
    have g2 := hat 2 (by omega)
    rw [Go.Deep.add_add] at g0 g1 g2
    exact ⟨k, m, ps, a', c', i64ok_of wk, i64ok_of wm, g0, g1, g2, hps⟩
  have hsp : a.spot = none := by
    obtain ⟨_, _, _, _, _, _, _, g0, _⟩ := each 0 (by omega)
    obtain ⟨ab, ao, asp⟩ := a
    cases asp with
    | none => rfl
    | some y =>
      exfalso
      simp [Addr.add, World.cell?] at g0
      split at g0 <;> simp at g0
  obtain ⟨ab, ao, asp⟩ := a
  simp only at hsp
  subst hsp
  obtain ⟨ps, hpl, hat⟩ := AtL.of_each (w := w) (S := fun _ => True) (b := ab) (o := ao) len (fun i hi => by
    obtain ⟨k, m, ps, a', c', ok1, ok2, g0, g1, g2, hps⟩ := each i hi
    have ea : ∀ j, Addr.add ⟨ab, ao, none⟩ j = ⟨ab, ao + j, none⟩ := by intro j; unfold Addr.add; split <;> simp_all
    rw [ea] at g0 g1 g2
    refine ⟨.mk k m ps, AtC.mk ok1 ok2 ?_ ?_ ?_ hps⟩
    · rw [show ao + 3 * i = ao + i * 3 by omega]; exact g0
    · rw [show ao + 3 * i + 1 = ao + (i * 3 + 1) by omega]; exact g1
    · rw [show ao + 3 * i + 2 = ao + (i * 3 + 2) by omega]; exact g2)
  exact ⟨ps, _, cap, by rw [hpl], by rw [hpl]; exact hl, hm', .inr ⟨ab, ao, rfl, trivial, hat⟩⟩
end

end Go.Proofs.Ytohogojphnlhpaa

/- The road from a law's walk to its row: one lemma for every law of this seat. -/
namespace Go.Proofs.Ytohogojphnlhpaa
open Go.ChangeShapes Go.WideShapes Go.ChangeAt Go.RowKit

theorem own : ownKnob Try.prog.godebug = none := by kernel_rfl
theorem laidOut : laidOutB Try.prog = true := by kernel_rfl

theorem trodAll_stays {H : Type} {enc : TypeId × Value → H} {P : Program} (hl : laidOutB P = true) {W W' : World} {sp' : Nat → Bool} : ∀ (ts : List TypeId) (vs : List Value) (ds : List (DataW H)) (ps : List MemPlace),
    (∀ t ∈ ts, P.readableRec t = true ∧ t < P.types.size) → DataW.TrodAll enc P W 0 (fun _ => true) true ts vs ds ps → (∀ p ∈ ps, W.sameAt W' p) → (∀ p ∈ ps, sp' p.block = true) → DataW.TrodAll enc P W' 0 sp' true ts vs ds ps
  | [], [], [], _, _, h, _, _ => h
  | t :: ts, v :: vs, d :: ds, ps, ht, h, hs, hp => by
    obtain ⟨p, q, h1, h2, rfl⟩ := h
    exact ⟨p, q, WideElems.Trod_stays hl (ht t (by simp)).1 (ht t (by simp)).2 h1 (fun x hx => hs x (by simp [hx])) (fun x hx => hp x (by simp [hx])),
      trodAll_stays hl ts vs ds q (fun u hu => ht u (by simp [hu])) h2 (fun x hx => hs x (by simp [hx])) (fun x hx => hp x (by simp [hx])), rfl⟩
  | [], _ :: _, _, _, _, h, _, _ => by simp [DataW.TrodAll] at h
  | [], [], _ :: _, _, _, h, _, _ => by simp [DataW.TrodAll] at h
  | _ :: _, [], _, _, _, h, _, _ => by simp [DataW.TrodAll] at h
  | _ :: _, _ :: _, [], _, _, h, _, _ => by simp [DataW.TrodAll] at h

/-- BEHIND THE WALK: the law returned true and made new memory alone. -/
theorem law_post {H : Type} {enc : TypeId × Value → H} {P : Program} (hl : laidOutB P = true) {f : Func} {s : ChangeSpec} {W W' : World} {args : Array Value} {ds : List (DataW H)} {before : List MemPlace} {tb : TypeId}
    (hsv : s.vars = []) (hrt : f.resultTypes = #[tb]) (htb : P.underlying tb = some .bool) (hts : ∀ t ∈ f.params.toList, P.readableRec t = true ∧ t < P.types.size)
    (hres : (s.fn H (ds ++ [])).results = [.lit (.bool true)]) (hargs : (s.fn H (ds ++ [])).args = ds) (hvs : (s.fn H (ds ++ [])).vars = [])
    (hW : DataW.Whole enc P f.params.toList s.vars false W args.toList ds [] before) (hb : Below W.heap.size W W') :
    s.post enc P f false true false false W args (.bool true) W' := by
  have hlt : ∀ p ∈ before, p.block < W.heap.size := fun p hp => hW.lt p hp
  have hold : ∀ p ∈ before, (fun b => decide (b < W.heap.size)) p.block = true := fun p hp => by simpa using hlt p hp
  have hW0 := hW
  obtain ⟨p, q, hA, hV, rfl, _, _⟩ := hW
  rw [hsv] at hV
  obtain rfl : q = [] := by simpa [DataW.TrodVars] using hV
  have har : ∀ sp : Nat → Bool, (∀ x ∈ p ++ [], sp x.block = true) → DataW.TrodAll enc P W' 0 sp true f.params.toList args.toList ds p := fun sp hsp =>
    trodAll_stays hl _ _ _ _ hts hA (fun x hx => hb.same (hlt x (by simp [hx]))) (fun x hx => hsp x (by simp [hx]))
  have hrs : ∀ (b : Nat) (sp : Nat → Bool) (hd : Bool), DataW.TrodAll enc P W' b sp hd f.resultTypes.toList ((Value.bool true).resultList f.resultTypes.size) (s.fn H (ds ++ [])).results [] := by
    intro b sp hd
    rw [hres, hrt]
    exact trodAll_mk1 (shut_bool htb _)
  refine ⟨ds, [], _, [], p, [], hW0, hrs _ _ _, by rw [hargs]; exact har _ hold, by rw [hsv, hvs]; rfl, World.keptBut_mono (fun p hp => ⟨hp, ?_⟩) (hb.frame (· ∈ p ++ [])), fun h => by cases h⟩
  rw [List.mem_append] at hp
  exact Or.inr hp

end Go.Proofs.Ytohogojphnlhpaa

/- a code that came in, opened -/
namespace Go.Proofs.Ytohogojphnlhpaa
open Go.ChangeShapes Go.WideShapes Go.ChangeAt Go.RowKit Go.Joins

theorem cellsByte : Try.prog.cellsOf 5 = 1 := by kernel_rfl

theorem u8_of {v : Int} (h : (Lit.int .u8 v).wf = true) : 0 ≤ v ∧ v ≤ 255 := by
  have h1 : IntKind.u8.min = 0 := by decide
  have h2 : IntKind.u8.max = 255 := by decide
  simp [Lit.wf] at h
  omega

/-- A code that came in, opened. -/
theorem open_code {H : Type} {enc : TypeId × Value → H} {P : Program} {w : World} {spare : Nat → Bool} {held : Bool} {tS tE : TypeId} (hS : P.underlying tS = some (.slice tE)) (hE : P.underlying tE = some (.int .u8)) (hC : P.cellsOf tE = 1)
    {v : Value} {d : DataW H} {p : List MemPlace} (hv : ∃ a n c, v = .slice a n c) (h : DataW.Trod enc P w 0 spare held tS v d p) : ∃ a n c, v = .slice a n c ∧ CodeAt w a n c := by
  obtain ⟨a, n, c, rfl⟩ := hv
  obtain ⟨fuel, hf⟩ := h
  rcases open_ints hS hE hC hf with ⟨hcs, _⟩ | ⟨a', len', cap', zs, hcs, _, hl, hm, hz, _, hcell, hwz⟩
  · simp [Value.cells] at hcs
    obtain ⟨rfl, rfl, rfl⟩ := hcs
    exact ⟨none, 0, 0, rfl, by simp [CodeAt]⟩
  · simp [Value.cells] at hcs
    obtain ⟨rfl, rfl, rfl⟩ := hcs
    have hm' : c ≤ 9223372036854775807 := hm
    have hzl : n ≤ zs.length := by rw [hz]; split <;> omega
    by_cases h0 : n = 0
    · exact ⟨_, _, _, rfl, hl, hm', .inl h0⟩
    obtain ⟨b, o, rfl, hc⟩ := ints_at hcell (by omega)
    have hb : b < w.heap.size := cell_lt (by simpa using hc 0 (by omega))
    refine ⟨_, _, _, rfl, hl, hm', .inr ⟨b, o, rfl, hb, fun i hi => ?_⟩⟩
    have hw := u8_of (hwz (zs.getD i 0) (by rw [List.getD_eq_getElem?_getD, List.getElem?_eq_getElem (by omega)]; simp))
    exact ⟨zs.getD i 0, hw.1, hw.2, hc i (by omega)⟩

end Go.Proofs.Ytohogojphnlhpaa

/- l91Sheet -/
namespace Go.Proofs.Ytohogojphnlhpaa
open Go.RowKit

/-- A sheet was drawn. -/
def SheetDr (g p : Nat) (w : World) (e : Ending) (w' : World) : Prop := ∃ (s : Sh) (v : Value) (a' : Option Addr) (c' q : Nat), e = .returned (.agg #[v, .slice a' s.t.length c']) ∧ ShD w' w.heap.size w'.heap.size s v a' c' ∧ s.t.length = s.m.length ∧ s.m.length ≤ 8 ∧ nodesL s.t ≤ 120 ∧ p ≤ q ∧ q ≤ p + 400 ∧ RdAt w' g q ∧ Only g w w'

set_option maxHeartbeats 3000000 in
theorem sheetD_any (w : World) (g p : Nat) (hr : RdAt w g p) (hp : p ≤ 990000) : Calls Try.prog 50 #[.pointer (some ⟨g, 0, none⟩)] w (SheetDr g p w) := by
  obtain ⟨iB, bi, bz0, bz1, bz2⟩ := info_parts infoBool
  have HIB := Lib.hid (And.intro bi (And.intro bz0 (And.intro bz1 bz2)))
  obtain ⟨iT, ti, tz0, tz1, tz2⟩ := info_parts infoTask
  have HIT := Lib.hid (And.intro ti (And.intro tz0 (And.intro tz1 tz2)))
  have hml : maxLen = 9223372036854775807 := rfl
  have HML := Lib.hid hml
  have hgl := hr.lt
  have hgn : w.heap.size ≠ g := by omega
  have HR0 := Lib.hid (hr.alloc (.cells #[.slice none 0 0, .slice none 0 0] 26))
  have HY0 := Lib.hid (Blk.new w 26 #[.slice none 0 0, .slice none 0 0])
  have HO0 := Lib.hid ((Only.refl g w).alloc (.cells #[.slice none 0 0, .slice none 0 0] 26))
  clear bi bz0 bz1 bz2 ti tz0 tz1 tz2 hml hr
  go_enter Try.func50, Try.ntmps50
  go_wp2_with fail
  refine (pick_any _ g p 7 HR0.out (by omega) (by omega) (by omega)).mono ?_
  rintro e w1 ⟨r, rfl, h0, h1, hrd, ho⟩
  have hr7 := h1 (by omega)
  have hs1 := ho.size
  simp only [World.size_alloc] at hs1
  have HR1 := Lib.hid (hrd.alloc (.cells #[.slice none 0 0, .slice none 0 0] 26))
  have HY1 := Lib.hid ((HY0.out.only ho hgn).alloc (.cells #[.slice none 0 0, .slice none 0 0] 26))
  have HX1 := Lib.hid (Blk.new w1 26 #[.slice none 0 0, .slice none 0 0])
  have HO1 := Lib.hid ((HO0.out.trans ho).alloc (.cells #[.slice none 0 0, .slice none 0 0] 26))
  obtain ⟨n, rfl⟩ : ∃ n : Nat, r = n := ⟨r.toNat, by omega⟩
  clear h1 hrd ho HR0 HO0 HY0
  go_wp2_with fail
  refine (pick_any _ g _ 3 HR1.out (by omega) (by omega) (by omega)).mono ?_
  rintro e w2 ⟨r, rfl, k0, k1, hrd, ho⟩
  have hr3 := k1 (by omega)
  have hXg : w1.heap.size ≠ g := by omega
  have hs2 := ho.size
  simp only [World.size_alloc] at hs2
  have HR2 := Lib.hid hrd
  have HY2 := Lib.hid (HY1.out.only ho hgn)
  have HX2 := Lib.hid (HX1.out.only ho hXg)
  have HO2 := Lib.hid (HO1.out.trans ho)
  obtain ⟨f, rfl⟩ : ∃ f : Nat, r = f := ⟨r.toNat, by omega⟩
  clear k1 hrd ho HR1 HO1 HY1 HX1
  go_wp2_with fail
  refine (pick_any _ g _ 8 HR2.out (by omega) (by omega) (by omega)).mono ?_
  rintro e w3 ⟨r, rfl, l0, l1, hrd, ho⟩
  have hs3 := ho.size
  have HR3 := Lib.hid hrd
  have HY3 := Lib.hid (HY2.out.only ho hgn)
  have HX3 := Lib.hid (HX2.out.only ho hXg)
  have HO3 := Lib.hid (HO2.out.trans ho)
  obtain ⟨wild, hwild⟩ : ∃ b, b = (r == 0) := ⟨_, rfl⟩
  clear l0 l1 hrd ho HR2 HO2 HY2 HX2
  go_upto_region 5 with (fail)
  rw [← hwild]
  clear hwild
  obtain ⟨N, hN⟩ : ∃ N : Nat, (N : Int) = 2 + (n : Int) := ⟨2 + n, by omega⟩
  obtain ⟨fi, hfi⟩ : ∃ N : Nat, (N : Int) = 1 + (f : Int) := ⟨1 + f, by omega⟩
  rw [← hN, ← hfi]
  have hN8 : N ≤ 8 := by omega
  clear hN hfi
  have hst : LSt w w1.heap.size g w3.heap.size w3 ⟨[], []⟩ (.slice none 0 0) none 0 (p + 1 + 1 + 1) :=
    ⟨⟨⟨by simp, .inl ⟨rfl, rfl⟩⟩, (by intro b hb; cases hb), OwS.nil, Nat.le_refl _⟩, HX3.out, HY3.out, HR3.out, HO3.out, hgl, by omega, by omega⟩
  have HST := Lib.hid hst
  clear hst HX3 HY3 HR3 HO3
  go_wp2_with fail
  go_loopw [7, 8, 9] (fun k _ _ wr => ∃ (s : Sh) (v : Value) (a' : Option Addr) (c' q : Nat), k = .int .i64 s.m.length ∧ s.m.length ≤ N ∧ s.t.length = s.m.length ∧ nodesL s.t ≤ 15 * s.m.length ∧ (p ≤ q ∧ q ≤ p + 3 + 41 * s.m.length) ∧ LSt w w1.heap.size g wr.heap.size wr s v a' c' q) (fun k _ _ _ => N - (intOf k).toNat)
  case atStart => exact ⟨⟨[], []⟩, _, _, _, _, rfl, by simp, rfl, by simp [nodesL], by simp; omega, HST.out⟩
  case round =>
    obtain ⟨s, v, a', c', q, rfl, hsm, hst, hsn, hq, hls⟩ := hrel
    obtain ⟨av, cv, rfl, _⟩ := ElRow.at hls.sh.row
    have HL := Lib.hid hls
    have HTL := Lib.hid hst
    have hst8 : s.t.length ≤ 8 := by omega
    clear hls HST hst
    by_cases hlt : s.m.length < N
    · by_cases hf : s.m.length < fi
      · have HFI := Lib.hid hf
        clear hst8
        have hst8 : s.t.length ≤ 8 := by have := HTL.out; omega
        obtain ⟨x0, x1, _, _⟩ := HL.out.bx.two
        go_wp2_with (at_builtin; refine wpList_append_row _ rfl (.tmp 34) (.tmp 35) 23 rfl (w1.heap.size + 1) 4 iB (.bool false) 1 1 Try.underlying23 HIB.out.1 HIB.out.2.1 HIB.out.2.2.1 HIB.out.2.2.2 rfl (by decide) _ s.m.length (s.m.map Value.bool) rfl (World.ownsRow.alloc HL.out.sh.row _) ⟨wr.heap.size, 0, none⟩ 1 1 [.bool false] rfl rfl ?ba1 ?ba2 (by decide) ?ba3 ?ba4 ?ba5 ?_)
        case ba1 => exact news1 _ _ _
        case ba2 => simp [Value.oneCell']
        case ba3 => rw [HML.out]; omega
        case ba4 => omega
        case ba5 => have := HL.out.ml; have := HL.out.sh.le; simp; omega
        intro v5 w5 hown hgr hnv
        obtain ⟨⟨av5, cv5, rfl⟩, hbx, hsz5, hl5⟩ := (HL.out.alloc (.cells #[.bool false] 4)).bool (x := false) hown hgr (by simpa using hnv)
        simp only [World.size_alloc] at hsz5
        clear hown hgr hnv x0 x1
        have H5 := Lib.hid hl5
        obtain ⟨x0, x1, f0, f1⟩ := hbx.two
        clear hl5 hbx
        go_upto_region 10 with (fail)
        clear x0 x1 f0 f1
        obtain ⟨w6, hw6⟩ : ∃ W, W = w5.setCell ⟨w1.heap.size, 0, none⟩ (.slice av5 (s.m.length + 1) cv5) := ⟨_, rfl⟩
        have hs6 : w6.heap.size = w5.heap.size := by rw [hw6]; simp [World.setCell]
        rw [← hw6]
        have h6 : LSt w w1.heap.size g w6.heap.size w6 ⟨s.m ++ [false], s.t⟩ (.slice av5 (s.m.length + 1) cv5) a' c' q := by rw [hs6, hw6]; exact H5.out
        have H6 := Lib.hid h6
        clear hw6 H5 h6 hs6

        obtain ⟨x0, x1, _, _⟩ := H6.out.bx.two
        have hlenT : s.t.length ≤ 1000000 := by omega
        go_wp2_with (at_builtin; refine wpList_append_ow _ rfl (.tmp 39) (.tmp 41) 24 39 rfl iT _ Try.underlying24 HIT.out.1 HIT.out.2.1 HIT.out.2.2.1 HIT.out.2.2.2 rfl (fun b => w1.heap.size + 1 ≤ b ∧ b < w6.heap.size ∧ (Value.slice av5 (s.m.length + 1) cv5).ownBlock ≠ some b) (fun _ => False) s.t a' c' rfl (H6.out.sh.ow.alloc _) hlenT ⟨w6.heap.size, 0, none⟩ 1 rfl (.mk 0 0 []) none 0 ?ta1 ?ta2 ?ta3 OwS.nil ?ta4 ?ta5 ?ta6 ?_)
        case ta1 => intro j u hj; first | (rw [add0, World.cell?_alloc_new, ← hj]; simp [T.k, T.n, T.ps]; done) | exact hj | simpa [T.k, T.n, T.ps] using hj
        case ta2 => simp [T.k, i64ok]
        case ta3 => simp [T.n, i64ok]
        case ta5 => intro b hb; have := H6.out.sh.le; first | omega | (simp; omega)
        intro v7 w7 hgr
        obtain ⟨a7, c7, rfl, hbx, hsz7, hl7⟩ := (H6.out.alloc _).task (t := (.mk 0 0 [])) (F1 := (fun _ => False)) (fun b hb => hb.elim) hgr
        simp only [World.size_alloc] at hsz7
        have H7 := Lib.hid hl7
        clear hgr hl7 x0 x1
        obtain ⟨x0, x1, f0, f1⟩ := hbx.two
        clear hbx
        go_wp2_with fail
        clear x0 x1 f0 f1
        go_roundw
        case rel => exact ⟨_, _, _, _, _, by simp only [List.length_append, List.length_singleton]; go_num, by simp only [List.length_append, List.length_singleton]; omega, by have := HTL.out; simp only [List.length_append, List.length_singleton]; omega, by rw [nodesL_append]; simp only [nodesL, T.nodes, List.length_append, List.length_singleton]; omega, by simp only [List.length_append, List.length_singleton]; omega, H7.out.up (by simp [World.setCell]) (Nat.le_refl _)⟩
        case measure => simp [intOf]; omega
      · go_wp2_with fail
        refine (pick_any _ g _ 10 HL.out.rd (by omega) (by omega) (by omega)).mono ?_
        rintro e w4 ⟨r4, rfl, m0, m1, hrd, ho⟩
        have hs4 := ho.size
        have HL4 := Lib.hid (HL.out.only ho hrd)
        clear hrd ho m1 HL
        by_cases hr0 : r4 = 0
        · subst hr0
          obtain ⟨x0, x1, _, _⟩ := HL4.out.bx.two
          go_wp2_with (at_builtin; refine wpList_append_row _ rfl (.tmp 34) (.tmp 35) 23 rfl (w1.heap.size + 1) 4 iB (.bool false) 1 1 Try.underlying23 HIB.out.1 HIB.out.2.1 HIB.out.2.2.1 HIB.out.2.2.2 rfl (by decide) _ s.m.length (s.m.map Value.bool) rfl (World.ownsRow.alloc HL4.out.sh.row _) ⟨w4.heap.size, 0, none⟩ 1 1 [.bool false] rfl rfl ?bc1 ?bc2 (by decide) ?bc3 ?bc4 ?bc5 ?_)
          case bc1 => exact news1 _ _ _
          case bc2 => simp [Value.oneCell']
          case bc3 => rw [HML.out]; omega
          case bc4 => omega
          case bc5 => have := HL4.out.ml; have := HL4.out.sh.le; simp; omega
          intro v5 w5 hown hgr hnv
          obtain ⟨⟨av5, cv5, rfl⟩, hbx, hsz5, hl5⟩ := (HL4.out.alloc (.cells #[.bool false] 4)).bool (x := false) hown hgr (by simpa using hnv)
          simp only [World.size_alloc] at hsz5
          clear hown hgr hnv x0 x1
          have H5 := Lib.hid hl5
          obtain ⟨x0, x1, f0, f1⟩ := hbx.two
          clear hl5 hbx
          go_upto_region 10 with (fail)
          clear x0 x1 f0 f1
          obtain ⟨w6, hw6⟩ : ∃ W, W = w5.setCell ⟨w1.heap.size, 0, none⟩ (.slice av5 (s.m.length + 1) cv5) := ⟨_, rfl⟩
          have hs6 : w6.heap.size = w5.heap.size := by rw [hw6]; simp [World.setCell]
          rw [← hw6]
          have h6 : LSt w w1.heap.size g w6.heap.size w6 ⟨s.m ++ [false], s.t⟩ (.slice av5 (s.m.length + 1) cv5) a' c' (q + 1) := by rw [hs6, hw6]; exact H5.out
          have H6 := Lib.hid h6
          clear hw6 H5 h6 hs6

          obtain ⟨x0, x1, _, _⟩ := H6.out.bx.two
          have hlenT : s.t.length ≤ 1000000 := by omega
          go_wp2_with (at_builtin; refine wpList_append_ow _ rfl (.tmp 39) (.tmp 41) 24 39 rfl iT _ Try.underlying24 HIT.out.1 HIT.out.2.1 HIT.out.2.2.1 HIT.out.2.2.2 rfl (fun b => w1.heap.size + 1 ≤ b ∧ b < w6.heap.size ∧ (Value.slice av5 (s.m.length + 1) cv5).ownBlock ≠ some b) (fun _ => False) s.t a' c' rfl (H6.out.sh.ow.alloc _) hlenT ⟨w6.heap.size, 0, none⟩ 1 rfl (.mk 0 0 []) none 0 ?tc1 ?tc2 ?tc3 OwS.nil ?tc4 ?tc5 ?tc6 ?_)
          case tc1 => intro j u hj; first | (rw [add0, World.cell?_alloc_new, ← hj]; simp [T.k, T.n, T.ps]; done) | exact hj | simpa [T.k, T.n, T.ps] using hj
          case tc2 => simp [T.k, i64ok]
          case tc3 => simp [T.n, i64ok]
          case tc5 => intro b hb; have := H6.out.sh.le; first | omega | (simp; omega)
          intro v7 w7 hgr
          obtain ⟨a7, c7, rfl, hbx, hsz7, hl7⟩ := (H6.out.alloc _).task (t := (.mk 0 0 [])) (F1 := (fun _ => False)) (fun b hb => hb.elim) hgr
          simp only [World.size_alloc] at hsz7
          have H7 := Lib.hid hl7
          clear hgr hl7 x0 x1
          obtain ⟨x0, x1, f0, f1⟩ := hbx.two
          clear hbx
          go_wp2_with fail
          clear x0 x1 f0 f1
          go_roundw
          case rel => exact ⟨_, _, _, _, _, by simp only [List.length_append, List.length_singleton]; go_num, by simp only [List.length_append, List.length_singleton]; omega, by have := HTL.out; simp only [List.length_append, List.length_singleton]; omega, by rw [nodesL_append]; simp only [nodesL, T.nodes, List.length_append, List.length_singleton]; omega, by simp only [List.length_append, List.length_singleton]; omega, H7.out.up (by simp [World.setCell]) (Nat.le_refl _)⟩
          case measure => simp [intOf]; omega
        · have hr0b : (r4 == 0) = false := by simp [hr0]
          clear hr0
          obtain ⟨x0, x1, _, _⟩ := HL4.out.bx.two
          go_wp2_with (at_builtin; refine wpList_append_row _ rfl (.tmp 45) (.tmp 46) 23 rfl (w1.heap.size + 1) 4 iB (.bool false) 1 1 Try.underlying23 HIB.out.1 HIB.out.2.1 HIB.out.2.2.1 HIB.out.2.2.2 rfl (by decide) _ s.m.length (s.m.map Value.bool) rfl (World.ownsRow.alloc HL4.out.sh.row _) ⟨w4.heap.size, 0, none⟩ 1 1 [.bool true] rfl rfl ?bb1 ?bb2 (by decide) ?bb3 ?bb4 ?bb5 ?_)
          case bb1 => exact news1 _ _ _
          case bb2 => simp [Value.oneCell']
          case bb3 => rw [HML.out]; omega
          case bb4 => omega
          case bb5 => have := HL4.out.ml; have := HL4.out.sh.le; simp; omega
          intro v5 w5 hown hgr hnv
          obtain ⟨⟨av5, cv5, rfl⟩, hbx, hsz5, hl5⟩ := (HL4.out.alloc (.cells #[.bool true] 4)).bool (x := true) hown hgr (by simpa using hnv)
          simp only [World.size_alloc] at hsz5
          clear hown hgr hnv x0 x1
          have H5 := Lib.hid hl5
          obtain ⟨x0, x1, f0, f1⟩ := hbx.two
          clear hl5 hbx
          go_upto_region 12 with (fail)
          clear x0 x1 f0 f1
          obtain ⟨w6, hw6⟩ : ∃ W, W = w5.setCell ⟨w1.heap.size, 0, none⟩ (.slice av5 (s.m.length + 1) cv5) := ⟨_, rfl⟩
          have hs6 : w6.heap.size = w5.heap.size := by rw [hw6]; simp [World.setCell]
          rw [← hw6]
          have h6 : LSt w w1.heap.size g w6.heap.size w6 ⟨s.m ++ [true], s.t⟩ (.slice av5 (s.m.length + 1) cv5) a' c' (q + 1) := by rw [hs6, hw6]; exact H5.out
          have H6 := Lib.hid h6
          clear hw6 H5 h6 hs6
          cases wild
          · go_wp2_with fail
            refine (fit_any _ g _ _ H6.out.rd (by omega) (by omega) (by omega)).mono ?_
            rintro e w8 ⟨t, at8, ct8, q8, rfl, how8, ok1, ok2, hok, hp0, hp1, hrd, ho⟩
            have hs8 := ho.size
            have hn15 : t.nodes ≤ 15 := by have := hok; simp [T.ok] at this; exact this.2
            have hfit : t.fit = true := by have := hok; simp [T.ok] at this; exact this.1
            have H8 := Lib.hid ((H6.out.only ho hrd).alloc (.cells #[.int .i64 t.k, .int .i64 t.n, .slice at8 t.ps.length ct8] 39))
            have HT8 := Lib.hid (how8.alloc (.cells #[.int .i64 t.k, .int .i64 t.n, .slice at8 t.ps.length ct8] 39))
            have HB8 := Lib.hid (Blk.new w8 39 #[.int .i64 t.k, .int .i64 t.n, .slice at8 t.ps.length ct8])
            have HOK := Lib.hid (And.intro ok1 ok2)
            have HFT := Lib.hid hfit
            clear how8 ok1 ok2 hok hrd ho hfit H6

            obtain ⟨z0, z1, z2, _, _, _⟩ := HB8.out.three
            go_wp2_with fail
            refine (lower_any t _ _ _ _ _ HFT.out HOK.out.1 HOK.out.2 HT8.out (fun b hb => by simp; omega)).mono ?_
            rintro e w9 ⟨a9, c9, rfl, ok3, ok4, how9, hfr⟩
            have hs9 := hfr.size
            simp only [World.size_alloc] at hs9
            have H9 := Lib.hid (H8.out.fr hfr (fun b hb => hb.1))
            have hb9 := HB8.out.fr' hfr (fun h => by omega)
            have HB9 := Lib.hid hb9
            have HT9 := Lib.hid how9
            have HK10 := Lib.hid (And.intro ok3 ok4)
            clear z0 z1 z2 ok3 ok4 how9 hfr H8 HT8 HB8
            obtain ⟨z0, z1, z2, f0, f1, f2⟩ := hb9.three
            clear hb9
            go_upto_region 18 with (fail)
            clear z0 z1 z2 f0 f1 f2
            obtain ⟨w10, hw10⟩ : ∃ W, W = set3 w9 w8.heap.size (.int .i64 t.low.k) (.int .i64 t.low.n) (.slice a9 t.low.ps.length c9) := ⟨_, rfl⟩
            have hs10 : w8.heap.size < w10.heap.size := by rw [hw10, set3_size]; omega
            have h10 : LSt w w1.heap.size g w6.heap.size w10 ⟨s.m ++ [true], s.t⟩ (.slice av5 (s.m.length + 1) cv5) a' c' q8 := by
              rw [hw10]
              exact H9.out.put _ (by omega) _ _ _
            have ht10 : OwS w10 39 (fun b => w6.heap.size ≤ b ∧ b < w8.heap.size) t.low.ps a9 c9 := by rw [hw10]; exact HT9.out.set3 (fun b hb => by omega) _ _ _
            have hb10 : Blk w10 w8.heap.size 39 #[.int .i64 t.low.k, .int .i64 t.low.n, .slice a9 t.low.ps.length c9] := by
              rw [hw10]; have := ((HB9.out.set_ 0 (.int .i64 t.low.k)).set_ 1 (.int .i64 t.low.n)).set_ 2 (.slice a9 t.low.ps.length c9); simpa [set3] using this
            unfold set3 at hw10
            rw [← hw10]
            have H10 := Lib.hid h10
            have HT10 := Lib.hid ht10
            have HB10 := Lib.hid hb10
            have HS10 := Lib.hid hs10
            have HN10 := Lib.hid (Nat.le_trans t.low_nodes hn15)
            clear hw10 h10 ht10 hb10 hs10 H9 HT9 HB9

            obtain ⟨z0, z1, z2, _, _, _⟩ := HB10.out.three

            obtain ⟨x0, x1, _, _⟩ := H10.out.bx.two
            have hlenT : s.t.length ≤ 1000000 := by omega
            go_wp2_with (at_builtin; refine wpList_append_ow _ rfl (.tmp 61) (.tmp 63) 24 39 rfl iT _ Try.underlying24 HIT.out.1 HIT.out.2.1 HIT.out.2.2.1 HIT.out.2.2.2 rfl (fun b => w1.heap.size + 1 ≤ b ∧ b < w6.heap.size ∧ (Value.slice av5 (s.m.length + 1) cv5).ownBlock ≠ some b) (fun b => w6.heap.size ≤ b ∧ b < w8.heap.size) s.t a' c' rfl (H10.out.sh.ow.alloc _) hlenT ⟨w10.heap.size, 0, none⟩ 1 rfl t.low a9 c9 ?te1 ?te2 ?te3 (HT10.out.alloc _) ?te4 ?te5 ?te6 ?_)
            case te2 => exact HK10.out.1
            case te3 => exact HK10.out.2
            case te4 => intro b hb hb2; omega
            case te5 => intro b hb; have := H10.out.sh.le; first | omega | (simp; omega)
            case te6 => intro b hb; have := HS10.out; first | omega | (simp; omega)
            intro v7 w7 hgr
            obtain ⟨a7, c7, rfl, hbx, hsz7, hl7⟩ := (H10.out.alloc _).task (t := t.low) (F1 := (fun b => w6.heap.size ≤ b ∧ b < w8.heap.size)) (fun b hb => by have := HS10.out; simp; omega) hgr
            simp only [World.size_alloc] at hsz7
            have H7 := Lib.hid hl7
            clear hgr hl7 x0 x1
            obtain ⟨x0, x1, f0, f1⟩ := hbx.two
            clear hbx
            go_wp2_with fail
            clear x0 x1 f0 f1
            go_roundw
            case rel => exact ⟨_, _, _, _, _, by simp only [List.length_append, List.length_singleton]; go_num, by simp only [List.length_append, List.length_singleton]; omega, by have := HTL.out; simp only [List.length_append, List.length_singleton]; omega, by rw [nodesL_append]; have := HN10.out; simp only [nodesL, List.length_append, List.length_singleton]; omega, by simp only [List.length_append, List.length_singleton]; omega, H7.out.up (by simp [World.setCell]) (Nat.le_refl _)⟩
            case measure => simp [intOf]; omega
          · go_wp2_with fail
            refine (fit_any _ g _ _ H6.out.rd (by omega) (by omega) (by omega)).mono ?_
            rintro e w8 ⟨t, at8, ct8, q8, rfl, how8, ok1, ok2, hok, hp0, hp1, hrd, ho⟩
            have hs8 := ho.size
            have hn15 : t.nodes ≤ 15 := by have := hok; simp [T.ok] at this; exact this.2
            have hfit : t.fit = true := by have := hok; simp [T.ok] at this; exact this.1
            have H8 := Lib.hid ((H6.out.only ho hrd).alloc (.cells #[.int .i64 t.k, .int .i64 t.n, .slice at8 t.ps.length ct8] 39))
            have HT8 := Lib.hid (how8.alloc (.cells #[.int .i64 t.k, .int .i64 t.n, .slice at8 t.ps.length ct8] 39))
            have HB8 := Lib.hid (Blk.new w8 39 #[.int .i64 t.k, .int .i64 t.n, .slice at8 t.ps.length ct8])
            have HOK := Lib.hid (And.intro ok1 ok2)
            have HFT := Lib.hid hfit
            clear how8 ok1 ok2 hok hrd ho hfit H6

            go_upto_region 18 with (fail)
            obtain ⟨w10, hw10⟩ : ∃ W, W = w8.alloc (.cells #[.int .i64 t.k, .int .i64 t.n, .slice at8 t.ps.length ct8] 39) := ⟨_, rfl⟩
            have hs10 : w8.heap.size < w10.heap.size := by rw [hw10]; simp
            rw [← hw10] at H8 HT8 HB8 ⊢
            have H10 := H8
            have HT10 := HT8
            have HB10 := HB8
            have HK10 := HOK
            have HS10 := Lib.hid hs10
            have HN10 := Lib.hid hn15
            clear hw10 H8 HT8 HB8 HOK hs10

            obtain ⟨z0, z1, z2, _, _, _⟩ := HB10.out.three

            obtain ⟨x0, x1, _, _⟩ := H10.out.bx.two
            have hlenT : s.t.length ≤ 1000000 := by omega
            go_wp2_with (at_builtin; refine wpList_append_ow _ rfl (.tmp 61) (.tmp 63) 24 39 rfl iT _ Try.underlying24 HIT.out.1 HIT.out.2.1 HIT.out.2.2.1 HIT.out.2.2.2 rfl (fun b => w1.heap.size + 1 ≤ b ∧ b < w6.heap.size ∧ (Value.slice av5 (s.m.length + 1) cv5).ownBlock ≠ some b) (fun b => w6.heap.size ≤ b ∧ b < w8.heap.size) s.t a' c' rfl (H10.out.sh.ow.alloc _) hlenT ⟨w10.heap.size, 0, none⟩ 1 rfl t at8 ct8 ?td1 ?td2 ?td3 (HT10.out.alloc _) ?td4 ?td5 ?td6 ?_)
            case td2 => exact HK10.out.1
            case td3 => exact HK10.out.2
            case td4 => intro b hb hb2; omega
            case td5 => intro b hb; have := H10.out.sh.le; first | omega | (simp; omega)
            case td6 => intro b hb; have := HS10.out; first | omega | (simp; omega)
            intro v7 w7 hgr
            obtain ⟨a7, c7, rfl, hbx, hsz7, hl7⟩ := (H10.out.alloc _).task (t := t) (F1 := (fun b => w6.heap.size ≤ b ∧ b < w8.heap.size)) (fun b hb => by have := HS10.out; simp; omega) hgr
            simp only [World.size_alloc] at hsz7
            have H7 := Lib.hid hl7
            clear hgr hl7 x0 x1
            obtain ⟨x0, x1, f0, f1⟩ := hbx.two
            clear hbx
            go_wp2_with fail
            clear x0 x1 f0 f1
            go_roundw
            case rel => exact ⟨_, _, _, _, _, by simp only [List.length_append, List.length_singleton]; go_num, by simp only [List.length_append, List.length_singleton]; omega, by have := HTL.out; simp only [List.length_append, List.length_singleton]; omega, by rw [nodesL_append]; have := HN10.out; simp only [nodesL, List.length_append, List.length_singleton]; omega, by simp only [List.length_append, List.length_singleton]; omega, H7.out.up (by simp [World.setCell]) (Nat.le_refl _)⟩
            case measure => simp [intOf]; omega
    · have HLE := Lib.hid (show s.m.length = N by omega)
      obtain ⟨x0, x1, _, _⟩ := HL.out.bx.two
      obtain ⟨y0, y1, f0, f1⟩ := HL.out.by_.two
      go_wp2_with fail
      refine bodyPost_ret (v := .agg #[.slice av s.m.length cv, .slice a' s.t.length c']) (by simp [results, Try.results50, go_sem, y0, y1]) rfl ?_
      have h := HL.out
      have hm := h.ml
      have hx := h.xl
      have h1 := (h.sh.set_ ⟨w.heap.size, 0, none⟩ (.slice av s.m.length cv) (.inl (by simp; omega))).set_ ⟨w.heap.size, 1, none⟩ (.slice a' s.t.length c') (.inl (by simp; omega))
      exact ⟨s, .slice av s.m.length cv, a', c', q, rfl, (h1.low (by omega)).up (by simp [World.setCell]) (Nat.le_refl _), HTL.out, by omega, by omega, by omega, by omega,
        h.rd.keep (fun k hk => by rw [Below.heap_setCell _ _ _ _ (by simp; omega), Below.heap_setCell _ _ _ _ (by simp; omega)]), (h.on.set (.inr (by simp)) _).set (.inr (by simp)) _⟩
end Go.Proofs.Ytohogojphnlhpaa

/- DrawSheetFixed and its like -/
namespace Go.Proofs.Ytohogojphnlhpaa
open Go.RowKit

/-- A sheet was drawn off a code. -/
def ShDr (w : World) (e : Ending) (w' : World) : Prop := ∃ (s : Sh) (v : Value) (a' : Option Addr) (c' : Nat), e = .returned (.agg #[v, .slice a' s.t.length c']) ∧ ShD w' w.heap.size w'.heap.size s v a' c' ∧ s.t.length = s.m.length ∧ s.m.length ≤ 8 ∧ nodesL s.t ≤ 120 ∧ Below w.heap.size w w'
set_option maxHeartbeats 1000000 in
theorem drawSheetFixed_any (w : World) (a : Option Addr) (n c : Nat) (h : CodeAt w a n c) : Calls Try.prog 29 #[.slice a n c] w (ShDr w) := by
  have HC := Lib.hid (h.alloc (.cells #[.slice none 0 0, .slice none 0 0] 26))
  clear h
  go_enter Try.func29, Try.ntmps29
  go_wp2_with fail
  refine (open_any _ a n c HC.out).mono ?_
  rintro e w1 ⟨rfl, hrd, hb⟩
  have hsz1 := hb.size
  simp only [World.size_alloc] at hsz1 hrd hb
  have HK1 := Lib.hid ((Blk.new w 26 #[.slice none 0 0, .slice none 0 0]).below hb (by omega))
  have HE1 := Lib.hid (And.intro hrd (below_of_box hb))
  have hlt1 : w.heap.size + 1 < w1.heap.size := hrd.lt
  clear hrd hb HC
  go_wp2_with fail
  refine (sheetD_any _ (w.heap.size + 1) 0 ?_ (by omega)).mono ?_
  · exact HE1.out.1
  rintro e w2 ⟨s, v, a', c', q, rfl, hsh, htl, hml, hnl, _, _, hrd, ho⟩
  obtain ⟨av, cv, rfl, _⟩ := ElRow.at hsh.row
  have hsz2 := ho.size
  have hK2 := HK1.out.only ho (by omega)
  have hB2 : Below w.heap.size w w2 := HE1.out.2.trans ⟨ho.os, ho.tape, ho.output, ho.size, fun k hk => ho.block k (by omega) (by intro e; injection e; omega)⟩
  have HX := Lib.hid (And.intro hB2 (And.intro hsh htl))
  have hz2 : w.heap.size < w2.heap.size := by omega
  obtain ⟨x0, x1, f0, f1⟩ := hK2.two
  clear hrd ho hK2 hB2 HK1 HE1 hsh htl
  go_wp2_with fail
  refine bodyPost_ret (v := .agg #[.slice av s.m.length cv, .slice a' s.t.length c']) (by simp [results, Try.results29, go_sem, x0, x1, hz2]) rfl ?_
  refine ⟨s, _, a', c', rfl, ?_, HX.out.2.2, hml, hnl, ?_⟩
  · have h := (((HX.out.2.1.set_ ⟨w.heap.size, 0, none⟩ (.slice av s.m.length cv) (.inl (by simp; omega))).set_ ⟨w.heap.size, 1, none⟩ (.slice a' s.t.length c') (.inl (by simp; omega))).alloc (.cells #[.slice av s.m.length cv, .slice a' s.t.length c'] 26))
    exact (h.low (by omega)).up (by simp [World.setCell]) (Nat.le_refl _)
  · exact ((HX.out.1.setCell (Nat.le_refl _) _).setCell (Nat.le_refl _) _).alloc (by simp [World.setCell]; omega) _
set_option maxHeartbeats 1000000 in
theorem drawSheetSafe_any (w : World) (a : Option Addr) (n c : Nat) (h : CodeAt w a n c) : Calls Try.prog 33 #[.slice a n c] w (ShDr w) := by
  have HC := Lib.hid (h.alloc (.cells #[.slice none 0 0, .slice none 0 0] 26))
  clear h
  go_enter Try.func33, Try.ntmps33
  go_wp2_with fail
  refine (open_any _ a n c HC.out).mono ?_
  rintro e w1 ⟨rfl, hrd, hb⟩
  have hsz1 := hb.size
  simp only [World.size_alloc] at hsz1 hrd hb
  have HK1 := Lib.hid ((Blk.new w 26 #[.slice none 0 0, .slice none 0 0]).below hb (by omega))
  have HE1 := Lib.hid (And.intro hrd (below_of_box hb))
  have hlt1 : w.heap.size + 1 < w1.heap.size := hrd.lt
  clear hrd hb HC
  go_wp2_with fail
  refine (sheetD_any _ (w.heap.size + 1) 0 ?_ (by omega)).mono ?_
  · exact HE1.out.1
  rintro e w2 ⟨s, v, a', c', q, rfl, hsh, htl, hml, hnl, _, _, hrd, ho⟩
  obtain ⟨av, cv, rfl, _⟩ := ElRow.at hsh.row
  have hsz2 := ho.size
  have hK2 := HK1.out.only ho (by omega)
  have hB2 : Below w.heap.size w w2 := HE1.out.2.trans ⟨ho.os, ho.tape, ho.output, ho.size, fun k hk => ho.block k (by omega) (by intro e; injection e; omega)⟩
  have HX := Lib.hid (And.intro hB2 (And.intro hsh htl))
  have hz2 : w.heap.size < w2.heap.size := by omega
  obtain ⟨x0, x1, f0, f1⟩ := hK2.two
  clear hrd ho hK2 hB2 HK1 HE1 hsh htl
  go_wp2_with fail
  refine bodyPost_ret (v := .agg #[.slice av s.m.length cv, .slice a' s.t.length c']) (by simp [results, Try.results33, go_sem, x0, x1, hz2]) rfl ?_
  refine ⟨s, _, a', c', rfl, ?_, HX.out.2.2, hml, hnl, ?_⟩
  · have h := (((HX.out.2.1.set_ ⟨w.heap.size, 0, none⟩ (.slice av s.m.length cv) (.inl (by simp; omega))).set_ ⟨w.heap.size, 1, none⟩ (.slice a' s.t.length c') (.inl (by simp; omega))).alloc (.cells #[.slice av s.m.length cv, .slice a' s.t.length c'] 26))
    exact (h.low (by omega)).up (by simp [World.setCell]) (Nat.le_refl _)
  · exact ((HX.out.1.setCell (Nat.le_refl _) _).setCell (Nat.le_refl _) _).alloc (by simp [World.setCell]; omega) _
end Go.Proofs.Ytohogojphnlhpaa

/- impl.BuildKey -/
namespace Go.Proofs.Ytohogojphnlhpaa
open Go.RowKit

noncomputable def bkOk (s : Sh) (l : List Int) (key : Int) : Bool := inOk s l && (decide (0 ≤ key ∧ key < s.m.length) && okS s l key)
noncomputable def bkV (s : Sh) (l : List Int) (key : Int) : Int := if bkOk s l key = true then vsS s l key else 0
def BkPost (s : Sh) (l : List Int) (key : Int) (w : World) (e : Ending) (w' : World) : Prop := e = .returned (.tuple #[.int .i64 (bkV s l key), .bool (bkOk s l key)]) ∧ Below w.heap.size w w'
theorem BkPost.no {s : Sh} {l : List Int} {key : Int} {w w' : World} (h : bkOk s l key = false) (hb : Below w.heap.size w w') : BkPost s l key w (.returned (.tuple #[.int .i64 0, .bool false])) w' := by
  unfold BkPost bkV
  rw [h]; exact ⟨rfl, hb⟩
theorem BkPost.yes {s : Sh} {l : List Int} {key : Int} {w w' : World} {v : Int} (h : bkOk s l key = true) (hv : v = vsS s l key) (hb : Below w.heap.size w w') : BkPost s l key w (.returned (.tuple #[.int .i64 v, .bool true])) w' := by
  unfold BkPost bkV
  rw [h, hv]; exact ⟨rfl, hb⟩

theorem PRow.cell {w : World} {b g n k i : Nat} (h : PRow w b g n k) (hi : i < k) : w.cell? ⟨b, i, none⟩ = some (.pointer (some ⟨g + i, 0, none⟩)) := by
  obtain ⟨cs, h1, _, h3⟩ := h
  rw [h1.cell i, h3 i hi]; simp [ndP]
theorem PRow.fr {D : Nat → Prop} {w w' : World} {b g n k : Nat} (h : PRow w b g n k) (hf : Fr D w w') (hD : ¬ D b) : PRow w' b g n k := by
  obtain ⟨cs, h1, h2, h3⟩ := h
  exact ⟨cs, h1.fr hf hD, h2, h3⟩
theorem below_nd {B : Nat} {w w1 w2 : World} {g n : Nat} (h : Below B w w1) (hf : Fr (ndB g n) w1 w2) (hg : B ≤ g) (hB : B ≤ w1.heap.size) : Below B w w2 :=
  h.trans ⟨hf.1, hf.2.1, hf.2.2.1, hf.2.2.2.1, fun b hb => hf.2.2.2.2 b (by omega) (fun h => by have := h.1; omega)⟩

theorem nds_start {w : World} {S : Nat → Prop} {s : Sh} {l : List Int} {g n : Nat} {m : Nat → Nat → Value} (hok : s.ok = true) (h : Nds w S s g n m (vf l) (fun k => !s.mdI k)) :
    Nds w S s g n m (fun k => if (!s.mdI k) = true then vsS s l k else vf l k) (fun k => !s.mdI k) :=
  h.congr (fun _ _ _ _ => rfl) (fun k _ => by
    show vf l (k : Int) = if (!s.mdI (k : Int)) = true then vsS s l k else vf l k
    cases hm : s.mdI (k : Int)
    · rw [vsS_free hok hm]; simp
    · simp) (fun _ _ => rfl)

set_option maxRecDepth 100000 in
set_option maxHeartbeats 2000000 in
theorem implBuildKey_any (s : Sh) (l : List Int) (key : Int) (w : World) (S S' : Nat → Prop) (a : Option Addr) (c : Nat) (a' : Option Addr) (c' : Nat) (ai : Option Addr) (ci : Nat) (h : ShAt w S s a c a' c') (hl : IntsAt w S' l ai ci) :
    Calls Try.prog 17 #[.agg #[.slice a s.m.length c, .slice a' s.t.length c'], .slice ai l.length ci, .int .i64 key] w (BkPost s l key w) := by
  have K0 := Lib.hid (Ks.start (ty := 26) h)
  have L0 := Lib.hid (hl.alloc (.cells #[.slice a s.m.length c, .slice a' s.t.length c'] 26))
  clear h hl
  obtain ⟨x0, x1⟩ := K0.out.box
  cases hin : inOk s l
  · have HNO := Lib.hid (show bkOk s l key = false by unfold bkOk; rw [hin]; rfl)
    have HI := Lib.hid hin
    clear hin
    go_enter Try.func17, Try.ntmps17
    go_wp2_with fail
    refine (implInputs_any s l _ S S' a c a' c' ai ci K0.out.2 L0.out).mono ?_
    rintro e w1 ⟨rfl, hb⟩
    rw [HI.out]
    have K1 := Lib.hid (K0.out.step hb)
    clear hb x0 x1
    go_wp2_with fail
    go_ret2
    exact BkPost.no HNO.out K1.out.done
  cases hk : decide (0 ≤ key ∧ key < s.m.length)
  · have HNO := Lib.hid (show bkOk s l key = false by unfold bkOk; rw [hk]; simp)
    have HI := Lib.hid hin
    have HK := Lib.hid hk
    clear hin hk
    go_enter Try.func17, Try.ntmps17
    go_wp2_with fail
    refine (implInputs_any s l _ S S' a c a' c' ai ci K0.out.2 L0.out).mono ?_
    rintro e w1 ⟨rfl, hb⟩
    rw [HI.out]
    have K1 := Lib.hid (K0.out.step hb)
    clear hb x0 x1
    obtain ⟨x0, x1⟩ := K1.out.box
    go_wp2_with fail
    refine (hasKey_any s _ S a c a' c' key K1.out.2).mono ?_
    rintro e w2 ⟨rfl, hb⟩
    rw [HK.out]
    have K2 := Lib.hid (K1.out.step hb)
    clear hb x0 x1
    go_wp2_with fail
    go_ret2
    exact BkPost.no HNO.out K2.out.done
  · have hk2 : 0 ≤ key ∧ key < s.m.length := by simpa using hk
    obtain ⟨kn, rfl⟩ : ∃ kn : Nat, key = kn := ⟨key.toNat, by omega⟩
    have hkn : kn < s.m.length := by omega
    have hbk : bkOk s l kn = okS s l kn := by unfold bkOk; rw [hin, hk]; rfl
    have HBK := Lib.hid hbk
    have HI := Lib.hid hin
    have HK := Lib.hid hk
    have h10 : s.m.length ≤ 10 := (Sh.ok_iff.1 (inOk_of hin).1).1
    clear hin hk hbk hk2
    go_enter Try.func17, Try.ntmps17
    go_wp2_with fail
    refine (implInputs_any s l _ S S' a c a' c' ai ci K0.out.2 L0.out).mono ?_
    rintro e w1 ⟨rfl, hb⟩
    rw [HI.out]
    have K1 := Lib.hid (K0.out.step hb)
    have L1 := Lib.hid (L0.out.below hb)
    clear hb x0 x1
    obtain ⟨x0, x1⟩ := K1.out.box
    go_wp2_with fail
    refine (hasKey_any s _ S a c a' c' kn K1.out.2).mono ?_
    rintro e w2 ⟨rfl, hb⟩
    rw [HK.out]
    have K2 := Lib.hid (K1.out.step hb)
    have L2 := Lib.hid (L1.out.below hb)
    clear hb x0 x1
    obtain ⟨x0, x1⟩ := K2.out.box
    go_wp2_with fail
    refine (nodes_any' s l _ S S' a c a' c' ai ci K2.out.2 L2.out HI.out).mono ?_
    rintro e w3 ⟨g, b, rfl, hb1, hg1, hnb, hp, hnd, hb⟩
    have K3 := Lib.hid (K2.out.step hb)
    have HND := Lib.hid hnd
    have HG := Lib.hid (And.intro hg1 hb.size)
    have hcell := hp.cell hkn
    have hbl : b < w3.heap.size := cell_lt hcell
    clear hb hp hnd x0 x1 hg1
    go_wp2_with fail
    have hok := (inOk_of HI.out).1
    have hS : ∀ b, (fun b => S b ∧ b < w2.heap.size) b → b < g := fun b hb => by have := HG.out.1; have := hb.2; omega
    refine (finish_any (gr_S hok l) (try_step HI.out hS) h10 hS w3 (fun k => !s.mdI k) kn hkn (fun _ h => h) (fun k h => (gr_S hok l).d0ok k h) (nds_start hok HND.out)).mono ?_
    rintro e w4 ⟨d, L, a4, c4, rfl, hat, hnd, _, hdo, hfr, _, ⟨rfl, hdf⟩ | ⟨hne, hnok, hLc⟩⟩
    · have K4 := Lib.hid (below_nd K3.out.done hfr (by have := HG.out.1; have := K2.out.size; omega) (by have := K3.out.size; omega))
      obtain ⟨_, _, hgk, _, _, _, _, _, e14, _, _, _⟩ := hnd.node hkn
      have e : (fun d k => if d k = true then vsS s l k else vf l k) d (kn : Int) = vsS s l kn := by simp only [hdf, if_true]
      rw [e] at e14
      obtain ⟨v, hv⟩ : ∃ v, v = vsS s l kn := ⟨_, rfl⟩
      rw [← hv] at e14
      have HV := Lib.hid hv
      have HY := Lib.hid (show bkOk s l kn = true by rw [HBK.out]; exact hdo _ hdf)
      clear hnd hdo hfr hdf e hok hS hv hat
      go_wp2_with fail
      go_ret2
      exact BkPost.yes HY.out HV.out K4.out
    · have K4 := Lib.hid (below_nd K3.out.done hfr (by have := HG.out.1; have := K2.out.size; omega) (by have := K3.out.size; omega))
      have HNO := Lib.hid (show bkOk s l kn = false by rw [HBK.out]; exact hnok)
      have hlp : decide ((0 : Int) < (L.length : Int)) = true := decide_eq_true (by have := List.length_pos_iff.2 hne; omega)
      have hlp2 : 0 < L.length := List.length_pos_iff.2 hne
      have hlp3 : decide (0 < L.length) = true := decide_eq_true hlp2
      have hLm : L.length ≤ 9223372036854775807 := by have := hat.1; have := hat.2.1; omega
      clear hnd hdo hfr hnok hok hS hne hat hLc
      go_wp2_with fail
      go_ret2
      exact BkPost.no HNO.out K4.out
end Go.Proofs.Ytohogojphnlhpaa

/- spec.BuildKey, spec.CircleOf -/
namespace Go.Proofs.Ytohogojphnlhpaa
open Go.RowKit

section
variable {S S' : Nat → Prop} {s : Sh} {l : List Int} {q : Nat} {a : Option Addr} {c : Nat} {a' : Option Addr} {c' : Nat} {ai : Option Addr} {ci : Nat}
theorem key_all : ∀ r, KeyT S S' s l q a c a' c' ai ci r
  | 0 => fun uv cv U k w hr hp => by
    have := hp.undL
    omega
  | r + 1 => fun uv cv U k w hr hp => by
    by_cases hk : (s.m.length : Int) ≤ k
    · exact key_far hp hk
    cases hm : s.mdI k
    · exact key_in hp (by omega) hm
    by_cases hU : k ∈ U
    · exact key_circ hp hm hU
    obtain ⟨kn, rfl⟩ : ∃ kn : Nat, k = kn := ⟨k.toNat, by have := hp.k0; omega⟩
    exact key_main (key_all r) (by omega) hp hm hU
end

/-- What building a key from nothing leaves, the builder in block q. -/
theorem key_top {s : Sh} {l : List Int} {w : World} {S S' : Nat → Prop} {a : Option Addr} {c : Nat} {a' : Option Addr} {c' : Nat} {ai : Option Addr} {ci : Nat} (q : Nat) (hin : inOk s l = true) (hs : ShAt w S s a c a' c') (hl : IntsAt w S' l ai ci) (hS : ∀ b, S b → b < q) (hS' : ∀ b, S' b → b < q)
    (hbd : BdAt w q s l a c a' c' ai ci (.slice none 0 0) (.slice none 0 0)) (k : Int) (h0 : 0 ≤ k) (h9 : k ≤ 9) :
    Calls Try.prog 63 #[.pointer (some ⟨q, 0, none⟩), .int .i64 k] w (KeyPost s l q a c a' c' ai ci (.slice none 0 0) (.slice none 0 0) [] k w) :=
  key_all (s.m.length + 1) (.slice none 0 0) (.slice none 0 0) [] k w (by simp) ⟨hin, hs, hl, hS, hS', hbd, World.ownsRow_nil _ _ _ _, h0, h9, Hyp.nil, by simp⟩

theorem specBuildKey_pre {s : Sh} {l : List Int} {key : Int} (h : (inOk s l && decide (0 ≤ key ∧ key < s.m.length)) = false) : bkOk s l key = false := by
  unfold bkOk
  rw [← Bool.and_assoc, h]; rfl

set_option maxRecDepth 100000 in
set_option maxHeartbeats 2000000 in
theorem specBuildKey_any (s : Sh) (l : List Int) (key : Int) (w : World) (S0 S0' : Nat → Prop) (a : Option Addr) (c : Nat) (a' : Option Addr) (c' : Nat) (ai : Option Addr) (ci : Nat) (h0 : ShAt w S0 s a c a' c') (hn : nodesL s.t ≤ 1048576) (hl0 : IntsAt w S0' l ai ci) :
    Calls Try.prog 18 #[.agg #[.slice a s.m.length c, .slice a' s.t.length c'], .slice ai l.length ci, .int .i64 key] w (BkPost s l key w) := by
  obtain ⟨S, hSd⟩ : ∃ S : Nat → Prop, S = fun b => S0 b ∧ b < w.heap.size := ⟨_, rfl⟩
  have hSl : ∀ b, S b → b < w.heap.size := by rw [hSd]; exact fun b h => h.2
  have h : ShAt w S s a c a' c' := by rw [hSd]; exact h0.lim
  obtain ⟨S', hSd'⟩ : ∃ S : Nat → Prop, S = fun b => S0' b ∧ b < w.heap.size := ⟨_, rfl⟩
  have hSl' : ∀ b, S' b → b < w.heap.size := by rw [hSd']; exact fun b h => h.2
  have hl : IntsAt w S' l ai ci := by rw [hSd']; exact hl0.lim
  have K0 := Lib.hid (Ks.start (ty := 26) h)
  have L0 := Lib.hid (hl.alloc (.cells #[.slice a s.m.length c, .slice a' s.t.length c'] 26))
  have HSL := Lib.hid (And.intro hSl hSl')
  have HN := Lib.hid hn
  have hlm : s.m.length ≤ 9223372036854775807 := by have := h.1.1; have := h.1.2.1; omega
  clear h hl h0 hl0 hSd hSd' hSl hSl' hn
  obtain ⟨x0, x1⟩ := K0.out.box
  cases hin : inOk s l
  · have HNO := Lib.hid (show bkOk s l key = false from specBuildKey_pre (by rw [hin]; rfl))
    have HI := Lib.hid hin
    clear hin
    go_enter Try.func18, Try.ntmps18
    go_wp2_with fail
    refine (specInputs_any s l _ S S' a c a' c' ai ci K0.out.2 HN.out L0.out).mono ?_
    rintro e w1 ⟨rfl, hb⟩
    rw [HI.out]
    have K1 := Lib.hid (K0.out.step hb)
    clear hb x0 x1
    go_wp2_with fail
    go_ret2
    exact BkPost.no HNO.out K1.out.done
  have hmb : s.m.length ≤ 10 := (Sh.ok_iff.1 (inOk_of hin).1).1
  have hdk : decide (0 ≤ key ∧ key ≤ (s.m.length : Int) - 1) = decide (0 ≤ key ∧ key < s.m.length) := by
    by_cases hk : 0 ≤ key ∧ key < s.m.length
    · rw [decide_eq_true hk, decide_eq_true (by omega)]
    · rw [decide_eq_false hk, decide_eq_false (by omega)]
  cases hk : decide (0 ≤ key ∧ key < s.m.length)
  · have HNO := Lib.hid (show bkOk s l key = false from specBuildKey_pre (by rw [hk, Bool.and_false]))
    have HI := Lib.hid hin
    rw [hk] at hdk
    have HK := Lib.hid hdk
    clear hin hk hdk
    go_enter Try.func18, Try.ntmps18
    go_wp2_with fail
    refine (specInputs_any s l _ S S' a c a' c' ai ci K0.out.2 HN.out L0.out).mono ?_
    rintro e w1 ⟨rfl, hb⟩
    rw [HI.out]
    have K1 := Lib.hid (K0.out.step hb)
    clear hb x0 x1
    obtain ⟨x0, x1⟩ := K1.out.box
    go_wp2_with fail
    refine (in_any _ _ _ _).mono ?_
    rintro e w2 ⟨rfl, rfl⟩
    rw [HK.out]
    go_wp2_with fail
    go_ret2
    exact BkPost.no HNO.out K1.out.done
  · have hk2 : 0 ≤ key ∧ key < s.m.length := by simpa using hk
    have hbk : bkOk s l key = okS s l key := by unfold bkOk; rw [hin, hk]; rfl
    have HBK := Lib.hid hbk
    have HI := Lib.hid hin
    rw [hk] at hdk
    have HK := Lib.hid hdk
    clear hin hk hdk hbk
    go_enter Try.func18, Try.ntmps18
    go_wp2_with fail
    refine (specInputs_any s l _ S S' a c a' c' ai ci K0.out.2 HN.out L0.out).mono ?_
    rintro e w1 ⟨rfl, hb⟩
    rw [HI.out]
    have K1 := Lib.hid (K0.out.step hb)
    have L1 := Lib.hid (L0.out.below hb)
    clear hb x0 x1
    obtain ⟨x0, x1⟩ := K1.out.box
    go_wp2_with fail
    refine (in_any _ _ _ _).mono ?_
    rintro e w2 ⟨rfl, rfl⟩
    rw [HK.out]
    go_wp2_with fail
    have hsz := K1.out.size
    have hbd := Blk.new w1 83 #[.slice a s.m.length c, .slice a' s.t.length c', .slice ai l.length ci, .slice none 0 0, .slice none 0 0]
    refine (key_top (S := S) (S' := S') w1.heap.size HI.out (K1.out.2.alloc _) (L1.out.alloc _) (fun b hb => by have := HSL.out.1 b hb; omega) (fun b hb => by have := HSL.out.2 b hb; omega) hbd key hk2.1 (by omega)).mono ?_
    rintro e w3 ⟨uv, cv, v, b, rfl, _, _, hfr, _, hor⟩
    have hb3 : Below w.heap.size w w3 := (K1.out.done.alloc (by omega) _).trans ⟨hfr.1, hfr.2.1, hfr.2.2.1, hfr.2.2.2.1, fun i hi => hfr.2.2.2.2 i (by simp; omega) (fun h => by
      rcases h with h | h
      · omega
      · simp [Value.ownBlock] at h)⟩
    have HB3 := Lib.hid hb3
    rcases hor with ⟨rfl, ho, hv, _⟩ | ⟨rfl, ho, _⟩
    · have HY := Lib.hid (And.intro (show bkOk s l key = true by rw [HBK.out]; exact ho) hv)
      clear hb3 hfr hbd ho hv
      go_wp2_with fail
      go_ret2
      exact BkPost.yes HY.out.1 HY.out.2 HB3.out
    · have HNO := Lib.hid (show bkOk s l key = false by rw [HBK.out]; exact ho)
      clear hb3 hfr hbd ho
      go_wp2_with fail
      go_ret2
      exact BkPost.no HNO.out HB3.out
end Go.Proofs.Ytohogojphnlhpaa

/- spec.CircleOf, spec.BuildAll -/
namespace Go.Proofs.Ytohogojphnlhpaa
open Go.RowKit

noncomputable def coB (s : Sh) (l : List Int) (key : Int) : Bool := (inOk s l && decide (0 ≤ key ∧ key < s.m.length)) && !okS s l key
noncomputable def coL (s : Sh) (l : List Int) (key : Int) : List Int := if coB s l key = true then circ s.m.length (chS s l) (okS s l) [] key else []
def CoPost (s : Sh) (l : List Int) (key : Int) (w : World) (e : Ending) (w' : World) : Prop := Below w.heap.size w w' ∧ ∃ v, e = .returned (.tuple #[v, .bool (coB s l key)]) ∧ NumRow w' w.heap.size v (coL s l key)
theorem CoPost.no {s : Sh} {l : List Int} {key : Int} {w w' : World} {v : Value} (h : coB s l key = false) (hb : Below w.heap.size w w') (hv : NumRow w' w.heap.size v []) : CoPost s l key w (.returned (.tuple #[v, .bool false])) w' := by
  refine ⟨hb, v, by rw [h], ?_⟩
  unfold coL
  rw [h]; exact hv
theorem CoPost.yes {s : Sh} {l : List Int} {key : Int} {w w' : World} {v : Value} (h : coB s l key = true) (hb : Below w.heap.size w w') (hv : NumRow w' w.heap.size v (circ s.m.length (chS s l) (okS s l) [] key)) : CoPost s l key w (.returned (.tuple #[v, .bool true])) w' := by
  refine ⟨hb, v, by rw [h], ?_⟩
  unfold coL
  rw [h]; exact hv

set_option maxRecDepth 100000 in
set_option maxHeartbeats 2000000 in
theorem specCircle_any (s : Sh) (l : List Int) (key : Int) (w : World) (S0 S0' : Nat → Prop) (a : Option Addr) (c : Nat) (a' : Option Addr) (c' : Nat) (ai : Option Addr) (ci : Nat) (h0 : ShAt w S0 s a c a' c') (hn : nodesL s.t ≤ 1048576) (hl0 : IntsAt w S0' l ai ci) :
    Calls Try.prog 26 #[.agg #[.slice a s.m.length c, .slice a' s.t.length c'], .slice ai l.length ci, .int .i64 key] w (CoPost s l key w) := by
  obtain ⟨S, hSd⟩ : ∃ S : Nat → Prop, S = fun b => S0 b ∧ b < w.heap.size := ⟨_, rfl⟩
  have hSl : ∀ b, S b → b < w.heap.size := by rw [hSd]; exact fun b h => h.2
  have h : ShAt w S s a c a' c' := by rw [hSd]; exact h0.lim
  obtain ⟨S', hSd'⟩ : ∃ S : Nat → Prop, S = fun b => S0' b ∧ b < w.heap.size := ⟨_, rfl⟩
  have hSl' : ∀ b, S' b → b < w.heap.size := by rw [hSd']; exact fun b h => h.2
  have hl : IntsAt w S' l ai ci := by rw [hSd']; exact hl0.lim
  have K0 := Lib.hid (Ks.start (ty := 26) h)
  have L0 := Lib.hid (hl.alloc (.cells #[.slice a s.m.length c, .slice a' s.t.length c'] 26))
  have HSL := Lib.hid (And.intro hSl hSl')
  have HN := Lib.hid hn
  have hlm : s.m.length ≤ 9223372036854775807 := by have := h.1.1; have := h.1.2.1; omega
  clear h hl h0 hl0 hSd hSd' hSl hSl' hn
  obtain ⟨x0, x1⟩ := K0.out.box
  have hrn : ∀ W : World, w.heap.size ≤ W.heap.size → NumRow (W.alloc (.cells #[] 3)) w.heap.size (.slice (some ⟨W.heap.size, 0, none⟩) 0 0) [] := fun W hW => ownsRow_low (rowN_new W) hW
  have HRN := Lib.hid hrn
  clear hrn
  cases hin : inOk s l
  · have HNO := Lib.hid (show coB s l key = false by unfold coB; rw [hin]; rfl)
    have HI := Lib.hid hin
    clear hin
    go_enter Try.func26, Try.ntmps26
    go_wp2_with fail
    refine (specInputs_any s l _ S S' a c a' c' ai ci K0.out.2 HN.out L0.out).mono ?_
    rintro e w1 ⟨rfl, hb⟩
    rw [HI.out]
    have K1 := Lib.hid (K0.out.step hb)
    clear hb x0 x1
    go_wp2_with fail
    go_ret2
    exact CoPost.no HNO.out (K1.out.alloc _).done (HRN.out _ K1.out.done.size)
  have hmb : s.m.length ≤ 10 := (Sh.ok_iff.1 (inOk_of hin).1).1
  have hdk : decide (0 ≤ key ∧ key ≤ (s.m.length : Int) - 1) = decide (0 ≤ key ∧ key < s.m.length) := by
    by_cases hk : 0 ≤ key ∧ key < s.m.length
    · rw [decide_eq_true hk, decide_eq_true (by omega)]
    · rw [decide_eq_false hk, decide_eq_false (by omega)]
  cases hk : decide (0 ≤ key ∧ key < s.m.length)
  · have HNO := Lib.hid (show coB s l key = false by unfold coB; rw [hk]; simp)
    have HI := Lib.hid hin
    rw [hk] at hdk
    have HK := Lib.hid hdk
    clear hin hk hdk
    go_enter Try.func26, Try.ntmps26
    go_wp2_with fail
    refine (specInputs_any s l _ S S' a c a' c' ai ci K0.out.2 HN.out L0.out).mono ?_
    rintro e w1 ⟨rfl, hb⟩
    rw [HI.out]
    have K1 := Lib.hid (K0.out.step hb)
    clear hb x0 x1
    obtain ⟨x0, x1⟩ := K1.out.box
    go_wp2_with fail
    refine (in_any _ _ _ _).mono ?_
    rintro e w2 ⟨rfl, rfl⟩
    rw [HK.out]
    go_wp2_with fail
    go_ret2
    exact CoPost.no HNO.out (K1.out.alloc _).done (HRN.out _ K1.out.done.size)
  · have hk2 : 0 ≤ key ∧ key < s.m.length := by simpa using hk
    have hbk : coB s l key = !okS s l key := by unfold coB; rw [hin, hk]; rfl
    have HBK := Lib.hid hbk
    have HI := Lib.hid hin
    rw [hk] at hdk
    have HK := Lib.hid hdk
    clear hin hk hdk hbk
    go_enter Try.func26, Try.ntmps26
    go_wp2_with fail
    refine (specInputs_any s l _ S S' a c a' c' ai ci K0.out.2 HN.out L0.out).mono ?_
    rintro e w1 ⟨rfl, hb⟩
    rw [HI.out]
    have K1 := Lib.hid (K0.out.step hb)
    have L1 := Lib.hid (L0.out.below hb)
    clear hb x0 x1
    obtain ⟨x0, x1⟩ := K1.out.box
    go_wp2_with fail
    refine (in_any _ _ _ _).mono ?_
    rintro e w2 ⟨rfl, rfl⟩
    rw [HK.out]
    go_wp2_with fail
    have hsz := K1.out.size
    have hbd := Blk.new w1 83 #[.slice a s.m.length c, .slice a' s.t.length c', .slice ai l.length ci, .slice none 0 0, .slice none 0 0]
    refine (key_top (S := S) (S' := S') w1.heap.size HI.out (K1.out.2.alloc _) (L1.out.alloc _) (fun b hb => by have := HSL.out.1 b hb; omega) (fun b hb => by have := HSL.out.2 b hb; omega) hbd key hk2.1 (by omega)).mono ?_
    rintro e w3 ⟨uv, cv, v, b, rfl, hbd3, _, hfr, _, hor⟩
    have hb3 : Below w.heap.size w w3 := (K1.out.done.alloc (by omega) _).trans ⟨hfr.1, hfr.2.1, hfr.2.2.1, hfr.2.2.2.1, fun i hi => hfr.2.2.2.2 i (by simp; omega) (fun h => by
      rcases h with h | h
      · omega
      · simp [Value.ownBlock] at h)⟩
    have HB3 := Lib.hid hb3
    obtain ⟨y0, y1, y2, y3, y4, _⟩ := Blk.five hbd3
    have hs3 := hfr.size
    simp only [World.size_alloc] at hs3
    rcases hor with ⟨rfl, ho, hv, _⟩ | ⟨rfl, ho, hrow⟩
    · have HNO := Lib.hid (show coB s l key = false by rw [HBK.out, ho]; rfl)
      clear hb3 hfr hbd ho hv hbd3
      go_wp2_with fail
      go_ret2
      exact CoPost.no HNO.out (HB3.out.alloc (by omega) _) (HRN.out _ (by omega))
    · have HY := Lib.hid (And.intro (show coB s l key = true by rw [HBK.out, ho]; rfl) (ownsRow_low hrow (show w.heap.size ≤ _ by simp; omega)))
      obtain ⟨a5, c5, rfl, _⟩ := ElRow.at (f := Value.int .i64) (e := 3) hrow
      clear hb3 hfr hbd ho hrow hbd3
      go_wp2_with fail
      go_ret2
      exact CoPost.yes HY.out.1 HB3.out HY.out.2

noncomputable def baTo (s : Sh) (l : List Int) (k : Nat) : Bool := (List.range k).all fun (i : Nat) => okS s l (i : Int)
noncomputable def baVs (s : Sh) (l : List Int) (k : Nat) : List Int := (List.range k).map fun (i : Nat) => vsS s l (i : Int)
noncomputable def baB (s : Sh) (l : List Int) : Bool := inOk s l && baTo s l s.m.length
noncomputable def baL (s : Sh) (l : List Int) : List Int := if baB s l = true then baVs s l s.m.length else []
def BaPost (s : Sh) (l : List Int) (w : World) (e : Ending) (w' : World) : Prop := Below w.heap.size w w' ∧ ∃ v, e = .returned (.tuple #[v, .bool (baB s l)]) ∧ NumRow w' w.heap.size v (baL s l)
theorem BaPost.no {s : Sh} {l : List Int} {w w' : World} {v : Value} (h : baB s l = false) (hb : Below w.heap.size w w') (hv : NumRow w' w.heap.size v []) : BaPost s l w (.returned (.tuple #[v, .bool false])) w' := by
  refine ⟨hb, v, by rw [h], ?_⟩
  unfold baL
  rw [h]; exact hv
theorem BaPost.yes {s : Sh} {l : List Int} {w w' : World} {v : Value} (h : baB s l = true) (hb : Below w.heap.size w w') (hv : NumRow w' w.heap.size v (baVs s l s.m.length)) : BaPost s l w (.returned (.tuple #[v, .bool true])) w' := by
  refine ⟨hb, v, by rw [h], ?_⟩
  unfold baL
  rw [h]; exact hv
theorem baTo_succ (s : Sh) (l : List Int) (k : Nat) : baTo s l (k + 1) = (baTo s l k && okS s l (k : Int)) := by unfold baTo; rw [List.range_succ, List.all_append]; simp
theorem baVs_succ (s : Sh) (l : List Int) (k : Nat) : baVs s l (k + 1) = baVs s l k ++ [vsS s l (k : Int)] := by unfold baVs; rw [List.range_succ, List.map_append]; rfl
theorem baVs_len (s : Sh) (l : List Int) (k : Nat) : (baVs s l k).length = k := by simp [baVs]
theorem baTo_false {s : Sh} {l : List Int} {k n : Nat} (h : k < n) (ho : okS s l (k : Int) = false) : baTo s l n = false := by
  cases hx : baTo s l n
  · rfl
  · unfold baTo at hx
    rw [List.all_eq_true] at hx
    rw [hx k (List.mem_range.2 h)] at ho
    cases ho
theorem bkOk_in {s : Sh} {l : List Int} {k : Nat} (hin : inOk s l = true) (hk : k < s.m.length) : bkOk s l (k : Int) = okS s l (k : Int) := by
  unfold bkOk
  rw [hin, decide_eq_true (by omega)]; rfl

set_option maxRecDepth 100000 in
set_option maxHeartbeats 2000000 in
theorem specAll_any (s : Sh) (l : List Int) (w : World) (S0 S0' : Nat → Prop) (a : Option Addr) (c : Nat) (a' : Option Addr) (c' : Nat) (ai : Option Addr) (ci : Nat) (h0 : ShAt w S0 s a c a' c') (hn : nodesL s.t ≤ 1048576) (hl0 : IntsAt w S0' l ai ci) :
    Calls Try.prog 22 #[.agg #[.slice a s.m.length c, .slice a' s.t.length c'], .slice ai l.length ci] w (BaPost s l w) := by
  obtain ⟨S, hSd⟩ : ∃ S : Nat → Prop, S = fun b => S0 b ∧ b < w.heap.size := ⟨_, rfl⟩
  have hSl : ∀ b, S b → b < w.heap.size := by rw [hSd]; exact fun b h => h.2
  have h : ShAt w S s a c a' c' := by rw [hSd]; exact h0.lim
  obtain ⟨S', hSd'⟩ : ∃ S : Nat → Prop, S = fun b => S0' b ∧ b < w.heap.size := ⟨_, rfl⟩
  have hSl' : ∀ b, S' b → b < w.heap.size := by rw [hSd']; exact fun b h => h.2
  have hl : IntsAt w S' l ai ci := by rw [hSd']; exact hl0.lim
  have HSL := Lib.hid (And.intro hSl hSl')
  have K0 := Lib.hid ((Ks.start (ty := 26) h).alloc (.cells #[] 3))
  have L0 := Lib.hid ((hl.alloc (.cells #[.slice a s.m.length c, .slice a' s.t.length c'] 26)).alloc (.cells #[] 3))
  have HN := Lib.hid hn
  have hlm : s.m.length ≤ 9223372036854775807 := by have := h.1.1; have := h.1.2.1; omega
  have hr0 := rowN_new (w.alloc (.cells #[.slice a s.m.length c, .slice a' s.t.length c'] 26))
  simp only [World.size_alloc] at hr0
  have HR0 := Lib.hid hr0
  clear h hl hn hr0 h0 hl0 hSd hSd' hSl hSl'
  obtain ⟨x0, x1⟩ := K0.out.box
  cases hin : inOk s l
  · have HNO := Lib.hid (show baB s l = false by unfold baB; rw [hin]; rfl)
    have HI := Lib.hid hin
    clear hin
    go_enter Try.func22, Try.ntmps22
    go_wp2_with fail
    refine (specInputs_any s l _ S S' a c a' c' ai ci K0.out.2 HN.out L0.out).mono ?_
    rintro e w1 ⟨rfl, hb⟩
    rw [HI.out]
    have K1 := Lib.hid (K0.out.step hb)
    have R1 := Lib.hid (ownsRow_low (ElRow.below (f := Value.int .i64) (e := 3) HR0.out hb) (Nat.le_succ _))
    clear hb x0 x1
    go_wp2_with fail
    go_ret2
    exact BaPost.no HNO.out K1.out.done R1.out
  · have hmb : s.m.length ≤ 10 := (Sh.ok_iff.1 (inOk_of hin).1).1
    have hbb : baB s l = baTo s l s.m.length := by unfold baB; rw [hin]; rfl
    have HBB := Lib.hid hbb
    have HI := Lib.hid hin
    obtain ⟨iN, ni, nz0, nz1, nz2⟩ := info_parts infoInt
    have HIN := Lib.hid (And.intro ni (And.intro nz0 (And.intro nz1 nz2)))
    have hml : maxLen = 9223372036854775807 := rfl
    have HML := Lib.hid hml
    clear hin hbb ni nz0 nz1 nz2 hml
    go_enter Try.func22, Try.ntmps22
    go_wp2_with fail
    refine (specInputs_any s l _ S S' a c a' c' ai ci K0.out.2 HN.out L0.out).mono ?_
    rintro e w1 ⟨rfl, hb⟩
    rw [HI.out]
    have K1 := Lib.hid (K0.out.step hb)
    have L1 := Lib.hid (L0.out.below hb)
    have R1 := Lib.hid (ElRow.below (f := Value.int .i64) (e := 3) HR0.out hb)
    clear hb x0 x1 K0 L0 HR0
    go_wp2_with fail
    go_loopw [6, 7] (fun v i wr => ∃ k : Nat, k ≤ s.m.length ∧ i = .int .i64 k ∧ baTo s l k = true ∧ NumRow wr (w.heap.size + 1) v (baVs s l k) ∧ Ks S s a c a' c' 26 w wr ∧ IntsAt wr S' l ai ci) (fun _ i _ => s.m.length - (intOf i).toNat)
    case atStart => exact ⟨0, by omega, rfl, rfl, R1.out, K1.out, L1.out⟩
    case round =>
      obtain ⟨k, hk, rfl, hq, hr, hks, hil⟩ := hrel
      have HQ := Lib.hid hq
      have HR := Lib.hid hr
      have K2 := Lib.hid hks
      have L2 := Lib.hid hil
      clear hq hr hks hil K1 L1 R1
      obtain ⟨x0, x1⟩ := K2.out.box
      by_cases hlt : k < s.m.length
      · have hbk := bkOk_in HI.out hlt
        have HBK := Lib.hid hbk
        have hwsz := K2.out.size
        clear hbk
        go_wp2_with fail
        refine (specBuildKey_any s l k _ S S' a c a' c' ai ci K2.out.2 HN.out L2.out).mono ?_
        rintro e w2 ⟨rfl, hb⟩
        have K3 := Lib.hid (K2.out.step hb)
        have L3 := Lib.hid (L2.out.below hb)
        have R3 := Lib.hid (ElRow.below (f := Value.int .i64) (e := 3) HR.out hb)
        have hs2 := hb.size
        clear hb x0 x1 K2 L2 HR
        cases ho : okS s l (k : Int)
        · have hv : bkV s l (k : Int) = 0 := by unfold bkV; rw [HBK.out, ho]; rfl
          rw [hv, HBK.out, ho]
          have HX := Lib.hid (show baB s l = false by rw [HBB.out]; exact baTo_false hlt ho)
          clear hv ho
          go_wp2_with fail
          go_ret2
          exact BaPost.no HX.out (K3.out.alloc _).done (ownsRow_low (rowN_new w2) (by omega))
        · have hv : bkV s l (k : Int) = vsS s l (k : Int) := by unfold bkV; rw [HBK.out, ho]; rfl
          rw [hv, HBK.out, ho]
          have HX := Lib.hid (show baTo s l (k + 1) = true by rw [baTo_succ, HQ.out, ho]; rfl)
          obtain ⟨x, hx⟩ : ∃ x, x = vsS s l (k : Int) := ⟨_, rfl⟩
          rw [← hx]
          have HXE := Lib.hid hx
          obtain ⟨G, hG⟩ : ∃ G, G = baVs s l k := ⟨_, rfl⟩
          have hgow : w2.ownsRow (w.heap.size + 1) 3 1 u6 k (G.map (.int .i64)) := by
            have h := R3.out
            unfold ElRow at h
            rw [baVs_len] at h
            rw [hG]; exact h
          have HGO := Lib.hid hgow
          have HG := Lib.hid hG
          clear hv ho hx hG hgow
          go_wp2_with (at_builtin; refine wpList_append_row _ rfl (.tmp 33) (.tmp 35) 30 rfl (w.heap.size + 1) 3 iN (.int .i64 0) 1 8 Try.underlying30 HIN.out.1 HIN.out.2.1 HIN.out.2.2.1 HIN.out.2.2.2 rfl (by decide) _ k (G.map (.int .i64)) rfl (World.ownsRow.alloc HGO.out _) ⟨w2.heap.size, 0, none⟩ 1 1 [.int .i64 x] rfl rfl ?d1 ?d2 (by decide) ?d3 ?d4 ?d5 ?_)
          case d1 => exact news1 _ _ _
          case d2 => simp [Value.oneCell']
          case d3 => rw [HML.out]; omega
          case d4 => omega
          case d5 => simp; omega
          intro v2 w3 hown hgr hnew
          have hr3 : NumRow w3 (w.heap.size + 1) v2 (baVs s l (k + 1)) := by
            unfold NumRow
            rw [baVs_len, baVs_succ, List.map_append, ← HG.out, ← HXE.out]
            exact hown
          have hgfr : Fr (fun b => u6.ownBlock = some b) w2 w3 := (show Fr (fun b => u6.ownBlock = some b) w2 _ from Fr.of_below ((Below.refl w2.heap.size w2).alloc (Nat.le_refl _) (.cells #[.int .i64 x] 3))).trans (fr_grown hgr) (fun b hb => .inl hb)
          have hge := own_ge HGO.out
          have H3 := Lib.hid (And.intro hr3 (And.intro (K3.out.fr hgfr hge HSL.out.1) (L3.out.fr hgfr (fun b hb h => by have := hge b h; have := HSL.out.2 b hb; omega))))
          clear hown hgr hnew hr3 hgfr hge
          go_wp2_with fail
          go_roundw
          case rel => exact ⟨k + 1, by omega, by go_num, HX.out, H3.out.1, H3.out.2.1, H3.out.2.2⟩
          case measure => simp [intOf]; omega
      · have hf : baB s l = true := by rw [HBB.out]; have := HQ.out; rwa [show k = s.m.length by omega] at this
        have HF := Lib.hid (And.intro hf (show NumRow wr w.heap.size u6 (baVs s l s.m.length) from by
          have h := HR.out
          rw [show k = s.m.length by omega] at h
          exact ownsRow_low h (Nat.le_succ _)))
        clear hf
        go_wp2_with fail
        go_ret2
        exact BaPost.yes HF.out.1 K2.out.done HF.out.2
end Go.Proofs.Ytohogojphnlhpaa

/- impl.BuildAll -/
namespace Go.Proofs.Ytohogojphnlhpaa
open Go.RowKit

theorem irow_row {w : World} {g base : Nat} {l : List Int} (h : IRow w g l.length l) (hb : base ≤ g) (hl : l.length ≤ 9223372036854775807) : NumRow w base (.slice (some ⟨g, 0, none⟩) l.length l.length) l := by
  obtain ⟨cs, h1, h2, h3⟩ := h
  refine ElRow.of_blk (f := Value.int .i64) h1 hb (List.ext_getElem (by simp [h2]) fun i hi1 hi2 => ?_) hl
  have h := h3 i (by simpa using hi2)
  obtain ⟨_, h⟩ := Array.getElem?_eq_some_iff.1 h
  simp [h]
theorem IRow.set_snoc {w : World} {g n : Nat} {l : List Int} (h : IRow w g n l) (hl : l.length < n) (x : Int) : IRow (w.setCell ⟨g, l.length, none⟩ (.int .i64 x)) g n (l ++ [x]) := by
  obtain ⟨cs, h1, h2, h3⟩ := h
  refine ⟨_, h1.set_ _ _, by simp [h2], fun i hi => ?_⟩
  rw [List.length_append, List.length_singleton] at hi
  rw [Array.getElem?_setIfInBounds]
  by_cases hil : l.length = i
  · subst hil
    rw [if_pos rfl, if_pos (by omega)]; simp
  · rw [if_neg hil, List.getElem_append_left (by omega)]
    exact h3 i (by omega)
theorem IRow.fr {D : Nat → Prop} {w w' : World} {g n : Nat} {l : List Int} (h : IRow w g n l) (hf : Fr D w w') (hD : ¬ D g) : IRow w' g n l := by
  obtain ⟨cs, h1, h2, h3⟩ := h
  exact ⟨cs, h1.fr hf hD, h2, h3⟩
theorem IRow.below {w w' : World} {g n : Nat} {l : List Int} (h : IRow w g n l) (hb : Below w.heap.size w w') : IRow w' g n l := by
  obtain ⟨cs, h1, h2, h3⟩ := h
  exact ⟨cs, h1.below hb h1.lt, h2, h3⟩
theorem IRow.lt {w : World} {g n : Nat} {l : List Int} (h : IRow w g n l) : g < w.heap.size := by obtain ⟨_, h1, _⟩ := h; exact h1.lt

set_option maxRecDepth 100000 in
set_option maxHeartbeats 4000000 in
theorem implAll_any (s : Sh) (l : List Int) (w : World) (S0 S' : Nat → Prop) (a : Option Addr) (c : Nat) (a' : Option Addr) (c' : Nat) (ai : Option Addr) (ci : Nat) (h0 : ShAt w S0 s a c a' c') (hl : IntsAt w S' l ai ci) :
    Calls Try.prog 19 #[.agg #[.slice a s.m.length c, .slice a' s.t.length c'], .slice ai l.length ci] w (BaPost s l w) := by
  obtain ⟨S, hSd⟩ : ∃ S : Nat → Prop, S = fun b => S0 b ∧ b < w.heap.size := ⟨_, rfl⟩
  have hSl : ∀ b, S b → b < w.heap.size := by rw [hSd]; exact fun b h => h.2
  have h : ShAt w S s a c a' c' := by rw [hSd]; exact h0.lim
  have HSL := Lib.hid hSl
  clear h0 hSd hSl
  have K0 := Lib.hid (Ks.start (ty := 26) h)
  have L0 := Lib.hid (hl.alloc (.cells #[.slice a s.m.length c, .slice a' s.t.length c'] 26))
  clear h hl
  obtain ⟨x0, x1⟩ := K0.out.box
  cases hin : inOk s l
  · have HNO := Lib.hid (show baB s l = false by unfold baB; rw [hin]; rfl)
    have HI := Lib.hid hin
    clear hin
    go_enter Try.func19, Try.ntmps19
    go_wp2_with fail
    refine (implInputs_any s l _ S S' a c a' c' ai ci K0.out.2 L0.out).mono ?_
    rintro e w1 ⟨rfl, hb⟩
    rw [HI.out]
    have K1 := Lib.hid (K0.out.step hb)
    clear hb x0 x1
    go_wp2_with fail
    go_ret2
    exact BaPost.no HNO.out K1.out.done (World.ownsRow_nil _ _ _ _)
  · have hok := (inOk_of hin).1
    have hll := (inOk_of hin).2.1
    have hmb : s.m.length ≤ 10 := (Sh.ok_iff.1 hok).1
    have hbb : baB s l = baTo s l s.m.length := by unfold baB; rw [hin]; rfl
    have HBB := Lib.hid hbb
    have HI := Lib.hid hin
    have HOK := Lib.hid hok
    obtain ⟨n, hn⟩ : ∃ n, n = s.m.length := ⟨_, rfl⟩
    have HN := Lib.hid hn
    have hll2 : l.length = n := by omega
    have HLL := Lib.hid hll2
    have hn10 : n ≤ 10 := by omega
    obtain ⟨i0, hi, hz0, hz1, hz2⟩ := info_parts infoInt
    have hmk := fun W => run_make_rowN (P := Try.prog) 30 3 i0 _ Try.underlying30 hi hz0 .i64 .i64 n n (Nat.le_refl _) (by rw [hz2]; omega) (by omega) W
    rw [hz1] at hmk
    clear hin hbb hok hll hn hll2 hmb
    go_enter Try.func19, Try.ntmps19
    go_wp2_with fail
    refine (implInputs_any s l _ S S' a c a' c' ai ci K0.out.2 L0.out).mono ?_
    rintro e w1 ⟨rfl, hb⟩
    rw [HI.out]
    have K1 := Lib.hid (K0.out.step hb)
    have L1 := Lib.hid (L0.out.below hb)
    clear hb x0 x1 K0 L0
    obtain ⟨x0, x1⟩ := K1.out.box
    rw [HLL.out]
    have hwlt : w.heap.size < w1.heap.size := by have := K1.out.size; omega
    go_wp2_with fail
    clear hmk
    have HC2 := Lib.hid (nodes_any' s l _ S S' a c a' c' ai ci (K1.out.2.alloc (.cells (madeCells #[.int .i64 0] n) 3)) (L1.out.alloc (.cells (madeCells #[.int .i64 0] n) 3)) HI.out)
    have hm1 : (madeCells #[Value.int IntKind.i64 0] n).size = n := by rw [size_madeCells]
    have hir : IRow (w1.alloc (.cells (madeCells #[.int .i64 0] n) 3)) w1.heap.size n [] := ⟨_, heap_alloc_new w1 _, hm1, by simp⟩
    have K2 := Lib.hid (K1.out.alloc (.cells (madeCells #[.int .i64 0] n) 3))
    have hs2 : (w1.alloc (.cells (madeCells #[.int .i64 0] n) 3)).heap.size = w1.heap.size + 1 := by simp
    obtain ⟨W, hW⟩ : ∃ W, W = w1.alloc (.cells (madeCells #[.int .i64 0] n) 3) := ⟨_, rfl⟩
    rw [← hW] at HC2 hir K2 hs2 ⊢
    rw [HLL.out] at HC2
    obtain ⟨gv, hgv⟩ : ∃ g, g = w1.heap.size := ⟨_, rfl⟩
    rw [← hgv] at hir hs2 hwlt ⊢
    have HIR := Lib.hid hir
    clear hW hm1 hir K1 L1 x0 x1 hgv
    refine HC2.out.mono ?_
    rintro e w3 ⟨g, b, rfl, hb1, hg1, hnb, hp, hnd, hb⟩
    rw [← HN.out] at hp hnd hnb ⊢
    have hS : ∀ b, (fun b => S b ∧ b < W.heap.size) b → b < g := fun b hb => by have := hb.2; omega
    have HS := Lib.hid hS
    have HP3 := Lib.hid (And.intro hp (And.intro (nds_start HOK.out hnd) (And.intro (K2.out.step hb).done (HIR.out.below hb))))
    have HNB := Lib.hid hnb
    have hs3 := hb.size
    have hgw : g + n ≤ w3.heap.size ∨ n = 0 := by
      rcases Nat.eq_zero_or_pos n with h | h
      · exact .inr h
      · obtain ⟨_, _, hl, _⟩ := hnd.node (i := n - 1) (by omega)
        exact .inl (by omega)
    have hbl : n = 0 ∨ b < w3.heap.size := by
      rcases Nat.eq_zero_or_pos n with h | h
      · exact .inl h
      · exact .inr (cell_lt (hp.cell h))
    clear HC2 hb hp hnd hS hnb HIR K2
    go_wp2_with fail
    go_loopw [20] (fun i wr => ∃ (k : Nat) (d : Int → Bool), k ≤ n ∧ i = .int .i64 k ∧ (∀ i, i < k → okS s l (i : Int) = true) ∧ (∀ q, (!s.mdI q) = true → d q = true) ∧ (∀ q, d q = true → okS s l q = true) ∧ PRow wr b g n n ∧
      Nds wr (fun b => S b ∧ b < W.heap.size) s g n (mpv s g n) (fun q => if d q = true then vsS s l q else vf l q) d ∧ Below w.heap.size w wr ∧ IRow wr gv n (baVs s l k)) (fun i _ => n - (intOf i).toNat)
    case atStart => exact ⟨0, fun k => !s.mdI k, by omega, rfl, fun i hi => by omega, fun _ h => h, fun k h => (gr_S HOK.out l).d0ok k h, HP3.out.1, HP3.out.2.1, HP3.out.2.2.1, HP3.out.2.2.2⟩
    case round =>
      obtain ⟨k, d, hk, rfl, hall, hlo, hhi, hp, hnd, hb, hir⟩ := hrel
      have H4 := Lib.hid (And.intro hall (And.intro hlo (And.intro hhi (And.intro hp (And.intro hnd (And.intro hb hir))))))
      clear HP3 hall hlo hhi hnd hb hir
      by_cases hlt : k < n
      · have hcell := hp.cell hlt
        clear hp
        go_wp2_with fail
        have hg := gr_S HOK.out l
        have hst := try_step (S := fun b => S b ∧ b < W.heap.size) (g := g) HI.out HS.out
        rw [← HN.out] at hg hst
        refine (finish_any hg hst hn10 HS.out wr d k hlt H4.out.2.1 H4.out.2.2.1 H4.out.2.2.2.2.1).mono ?_
        rintro e w4 ⟨d2, L, a4, c4, rfl, hat, hnd2, hdd, hdo, hfr, _, ⟨rfl, hdf⟩ | ⟨hne, hnok, hLc⟩⟩
        · obtain ⟨_, _, hgk, _, _, _, _, _, e14, _, _, _⟩ := hnd2.node hlt
          have e : (fun d k => if d k = true then vsS s l k else vf l k) d2 (k : Int) = vsS s l k := by simp only [hdf, if_true]
          rw [e] at e14
          obtain ⟨v, hv⟩ : ∃ v, v = vsS s l (k : Int) := ⟨_, rfl⟩
          rw [← hv] at e14
          have HV := Lib.hid hv
          have hgvn : ¬ ndB g n gv := fun h => by have := h.1; omega
          have hir4 := H4.out.2.2.2.2.2.2.fr hfr hgvn
          have hp4 := H4.out.2.2.2.1.fr hfr HNB.out
          have hb4 : Below w.heap.size w w4 := below_nd H4.out.2.2.2.2.2.1 hfr (by omega) H4.out.2.2.2.2.2.1.size
          obtain ⟨cs, hbk, hcs, _⟩ := id hir4
          have hf := hbk.frozen k
          have hx : w4.cell? ⟨gv, k, none⟩ = some (cs[k]'(by omega)) := by rw [hbk.cell k]; simp
          obtain ⟨y, hy⟩ : ∃ y, y = cs[k]'(by omega) := ⟨_, rfl⟩
          rw [← hy] at hx
          have hset := hir4.set_snoc (by rw [baVs_len]; exact hlt) v
          rw [baVs_len, hv, ← baVs_succ, ← hv] at hset
          have hfs : Fr (fun b => b = gv) w4 (w4.setCell ⟨gv, k, none⟩ (.int .i64 v)) := Fr.set' (D := fun b => b = gv) (Fr.of_below (Below.refl _ _)) ⟨gv, k, none⟩ rfl _
          have hnd5 := hnd2.fr hfs (fun b hb => by
            rintro (h | h)
            · have := HSL.out b h.1; omega
            · omega)
          have hok2 : ∀ i, i < k + 1 → okS s l (i : Int) = true := fun i hi => by
            by_cases hik : i = k
            · subst hik; exact hdo _ hdf
            · exact H4.out.1 i (by omega)
          have H5 := Lib.hid (And.intro hok2 (And.intro (fun q hq => hdd q (H4.out.2.1 q hq)) (And.intro hdo (And.intro (hp4.fr hfs (fun h => by
            have := hbk.lt
            rcases hbl with h2 | h2
            · omega
            · rw [h] at hb1; omega)) (And.intro hnd5 (And.intro (hb4.setCell (p := ⟨gv, k, none⟩) (by simp; omega) (.int .i64 v)) hset))))))
          have hgv4 : gv < w4.heap.size := hir4.lt
          clear hat hnd2 hdd hdo hfr hdf e hv hir4 hp4 hb4 hbk hcs hy hset hfs hnd5 hok2 hg hst hcell
          go_wp2_with fail
          go_roundw
          case rel => exact ⟨k + 1, d2, by omega, by go_num, H5.out.1, H5.out.2.1, H5.out.2.2.1, H5.out.2.2.2.1, H5.out.2.2.2.2.1, H5.out.2.2.2.2.2.1, H5.out.2.2.2.2.2.2⟩
          case measure => simp [intOf]; omega
        · have hb4 : Below w.heap.size w w4 := below_nd H4.out.2.2.2.2.2.1 hfr (by omega) H4.out.2.2.2.2.2.1.size
          have HB4 := Lib.hid hb4
          have HNO := Lib.hid (show baB s l = false by rw [HBB.out]; exact baTo_false (by rw [← HN.out]; exact hlt) hnok)
          have hlp2 : 0 < L.length := List.length_pos_iff.2 hne
          have hlp : decide ((0 : Int) < (L.length : Int)) = true := decide_eq_true (by omega)
          have hlp3 : decide (0 < L.length) = true := decide_eq_true hlp2
          have hLm : L.length ≤ 9223372036854775807 := by have := hat.1; have := hat.2.1; omega
          clear hat hnd2 hdd hdo hfr hnok hLc hb4 hg hst hcell hne
          go_wp2_with fail
          go_ret2
          exact BaPost.no HNO.out HB4.out (World.ownsRow_nil _ _ _ _)
      · obtain rfl : n = k := by omega
        have hbt : baTo s l n = true := by
          unfold baTo
          rw [List.all_eq_true]
          intro i hi
          exact H4.out.1 i (List.mem_range.1 hi)
        have HY := Lib.hid (show baB s l = true by rw [HBB.out, ← HN.out]; exact hbt)
        clear hbt hp
        go_wp2_with fail
        go_ret2
        refine BaPost.yes HY.out H4.out.2.2.2.2.2.1 ?_
        rw [← HN.out]
        have h := irow_row (base := w.heap.size) (show IRow wr gv (baVs s l n).length (baVs s l n) by rw [baVs_len]; exact H4.out.2.2.2.2.2.2) (by omega) (by rw [baVs_len]; omega)
        rw [baVs_len] at h
        exact h
end Go.Proofs.Ytohogojphnlhpaa

/- impl.SheetSafe -/
namespace Go.Proofs.Ytohogojphnlhpaa
open Go.RowKit

def nought (n : Nat) : List Int := List.replicate n 0
theorem nought_ok {n : Nat} (h : n ≤ 10) : vok (nought n) = true := by
  unfold vok nought
  rw [List.length_replicate, decide_eq_true h, Bool.true_and, List.all_eq_true]
  intro x hx
  rw [List.eq_of_mem_replicate hx]
  rfl
theorem nought_in {s : Sh} (h : s.ok = true) : inOk s (nought s.m.length) = true := by
  unfold inOk
  rw [h, nought_ok (Sh.ok_iff.1 h).1]
  simp [nought]
theorem nought_at (w : World) (n : Nat) (hn : n ≤ 9223372036854775807) : IntsAt (w.alloc (.cells (madeCells #[.int .i64 0] n) 3)) (fun _ => True) (nought n) (some ⟨w.heap.size, 0, none⟩) n := by
  have hl : (nought n).length = n := by simp [nought]
  refine ⟨by rw [hl]; omega, hn, fun v hv => by rw [List.eq_of_mem_replicate hv]; unfold i64ok; omega, .inr ⟨w.heap.size, 0, rfl, trivial, fun i hi => ?_⟩⟩
  rw [hl] at hi
  rw [Nat.zero_add, World.cell?_alloc_new, ← Array.getElem?_toList, toList_madeCells_one, List.getElem?_replicate, if_pos hi]
  simp [nought]

set_option maxRecDepth 100000 in
set_option maxHeartbeats 4000000 in
theorem implSafe_any (s : Sh) (w : World) (S0 : Nat → Prop) (a : Option Addr) (c : Nat) (a' : Option Addr) (c' : Nat) (h0 : ShAt w S0 s a c a' c') :
    Calls Try.prog 34 #[.agg #[.slice a s.m.length c, .slice a' s.t.length c']] w fun e w' => e = .returned (.bool (safeB s)) ∧ Below w.heap.size w w' := by
  obtain ⟨S, hSd⟩ : ∃ S : Nat → Prop, S = fun b => S0 b ∧ b < w.heap.size := ⟨_, rfl⟩
  have hSl : ∀ b, S b → b < w.heap.size := by rw [hSd]; exact fun b h => h.2
  have h : ShAt w S s a c a' c' := by rw [hSd]; exact h0.lim
  have HSL := Lib.hid hSl
  have K0 := Lib.hid (Ks.start (ty := 26) h)
  clear h h0 hSd hSl
  obtain ⟨x0, x1⟩ := K0.out.box
  cases hok : s.ok
  · have HV := Lib.hid (show safeB s = false by unfold safeB; rw [hok]; rfl)
    have HO := Lib.hid hok
    clear hok
    go_enter Try.func34, Try.ntmps34
    go_wp2_with fail
    refine (implSheetOk_any s _ S a c a' c' K0.out.2).mono ?_
    rintro e w1 ⟨rfl, hb⟩
    rw [HO.out]
    have K1 := Lib.hid (K0.out.step hb)
    clear hb x0 x1
    go_wp2_with fail
    go_ret
    exact ⟨ret_bool HV.out.symm, K1.out.done⟩
  · have hm10 : s.m.length ≤ 10 := (Sh.ok_iff.1 hok).1
    have HO := Lib.hid hok
    have HI := Lib.hid (nought_in hok)
    obtain ⟨n, hnn⟩ : ∃ n, n = s.m.length := ⟨_, rfl⟩
    have HN := Lib.hid hnn
    have hn10 : n ≤ 10 := by omega
    obtain ⟨i0, hi, hz0, hz1, hz2⟩ := info_parts infoInt
    have hmk := fun W => run_make_rowN (P := Try.prog) 30 3 i0 _ Try.underlying30 hi hz0 .i64 .i64 n n (Nat.le_refl _) (by rw [hz2]; omega) (by omega) W
    rw [hz1] at hmk
    clear hok hm10
    go_enter Try.func34, Try.ntmps34
    go_wp2_with fail
    refine (implSheetOk_any s _ S a c a' c' K0.out.2).mono ?_
    rintro e w1 ⟨rfl, hb⟩
    rw [HO.out]
    have K1 := Lib.hid (K0.out.step hb)
    clear hb x0 x1
    obtain ⟨x0, x1⟩ := K1.out.box
    rw [← hnn] at x0 ⊢
    have hwl : w.heap.size < w1.heap.size := by have := K1.out.size; omega
    clear hnn
    go_wp2_with fail
    have hc2 : Calls Try.prog 58 #[.agg #[.slice a n c, .slice a' s.t.length c'], .slice (some ⟨w1.heap.size, 0, none⟩) n n] (w1.alloc (.cells (madeCells #[.int .i64 0] n) 3)).drew (NodesPost (fun b => S b ∧ b < (w1.alloc (.cells (madeCells #[.int .i64 0] n) 3)).drew.heap.size) s (nought n) (w1.alloc (.cells (madeCells #[.int .i64 0] n) 3)).drew) := by
      have h := nodes_any' s (nought s.m.length) (w1.alloc (.cells (madeCells #[.int .i64 0] s.m.length) 3)).drew S (fun _ => True) a c a' c' (some ⟨w1.heap.size, 0, none⟩) s.m.length (K1.out.2.alloc _).drew (nought_at w1 s.m.length (by have := HN.out; omega)).drew HI.out
      rw [show (nought s.m.length).length = s.m.length by simp [nought], ← HN.out] at h
      exact h
    have HC2 := Lib.hid hc2
    have K2 := Lib.hid ((K1.out.alloc (.cells (madeCells #[.int .i64 0] n) 3)).drew)
    have hsd : (w1.alloc (.cells (madeCells #[.int .i64 0] n) 3)).drew.heap.size = w1.heap.size + 1 := by simp [World.drew]
    have HSD := Lib.hid hsd
    clear hc2 hsd
    go_region_with (go_at_call 58; refine HC2.out.mono ?_; rintro e w3 ⟨g, b, rfl, hb1, hg1, hnb, hp, hnd, hb⟩; rw [← HN.out] at hp hnd hnb ⊢)
    all_goals
      clear hmk
      have hS : ∀ b, (fun b => S b ∧ b < (w1.alloc (.cells (madeCells #[.int .i64 0] n) 3)).drew.heap.size) b → b < g := fun b hb => by have := hb.2; omega
      have HS := Lib.hid hS
      have HP3 := Lib.hid (And.intro hp (And.intro hnd (K2.out.step hb).done))
      have HNB := Lib.hid hnb
      have HG := Lib.hid (show w.heap.size ≤ g by have := HSD.out; omega)
      clear HC2 hb hp hnd hS hnb K2 x0 x1 hb1 hg1
      go_wp2_with fail
      go_loopw [15] (fun i wr => ∃ (k : Nat) (d : Int → Bool), k ≤ n ∧ i = .int .i64 k ∧ (∀ i, i < k → okM s (i : Int) = true) ∧ (∀ q, (!s.mdI q) = true → d q = true) ∧ (∀ q, d q = true → okM s q = true) ∧ PRow wr b g n n ∧
        Nds wr (fun b => S b ∧ b < (w1.alloc (.cells (madeCells #[.int .i64 0] n) 3)).drew.heap.size) s g n (mpv s g n) (vf (nought n)) d ∧ Below w.heap.size w wr) (fun i _ => n - (intOf i).toNat)
      case atStart => exact ⟨0, fun k => !s.mdI k, by omega, rfl, fun i hi => by omega, fun _ h => h, fun k h => (gr_M s).d0ok k h, HP3.out.1, HP3.out.2.1, HP3.out.2.2⟩
      case round =>
        obtain ⟨k, d, hk, rfl, hall, hlo, hhi, hp, hnd, hb⟩ := hrel
        have H4 := Lib.hid (And.intro hall (And.intro hlo (And.intro hhi (And.intro hp (And.intro hnd hb)))))
        clear HP3 hall hlo hhi hnd hb
        by_cases hlt : k < n
        · have hcell := hp.cell hlt
          clear hp
          go_wp2_with fail
          have hg := gr_M s
          have hst := settle_step (S := fun b => S b ∧ b < (w1.alloc (.cells (madeCells #[.int .i64 0] n) 3)).drew.heap.size) (s := s) (g := g) (vf (nought n)) HS.out
          rw [← HN.out] at hg hst
          refine (finish_any hg hst hn10 HS.out wr d k hlt H4.out.2.1 H4.out.2.2.1 H4.out.2.2.2.2.1).mono ?_
          rintro e w4 ⟨d2, L, a4, c4, rfl, hat, hnd2, hdd, hdo, hfr, _, ⟨rfl, hdf⟩ | ⟨hne, hnok, hLc⟩⟩
          · have hp4 := H4.out.2.2.2.1.fr hfr HNB.out
            have hb4 : Below w.heap.size w w4 := below_nd H4.out.2.2.2.2.2 hfr HG.out H4.out.2.2.2.2.2.size
            have hok2 : ∀ i, i < k + 1 → okM s (i : Int) = true := fun i hi => by
              by_cases hik : i = k
              · subst hik; exact hdo _ hdf
              · exact H4.out.1 i (by omega)
            have H5 := Lib.hid (And.intro hok2 (And.intro (fun q hq => hdd q (H4.out.2.1 q hq)) (And.intro hdo (And.intro hp4 (And.intro hnd2 hb4)))))
            clear hat hnd2 hdd hdo hfr hdf hp4 hb4 hok2 hg hst hcell
            go_wp2_with fail
            go_roundw
            case rel => exact ⟨k + 1, d2, by omega, by go_num, H5.out.1, H5.out.2.1, H5.out.2.2.1, H5.out.2.2.2.1, H5.out.2.2.2.2.1, H5.out.2.2.2.2.2⟩
            case measure => simp [intOf]; omega
          · have hb4 : Below w.heap.size w w4 := below_nd H4.out.2.2.2.2.2 hfr HG.out H4.out.2.2.2.2.2.size
            have HB4 := Lib.hid hb4
            have HV := Lib.hid (show safeB s = false by
              unfold safeB
              cases hx : (List.range s.m.length).all fun (i : Nat) => okM s (i : Int)
              · rw [Bool.and_false]
              · rw [List.all_eq_true] at hx
                rw [hx k (List.mem_range.2 (by rw [← HN.out]; exact hlt))] at hnok
                cases hnok)
            have hlp2 : 0 < L.length := List.length_pos_iff.2 hne
            have hlp : decide ((0 : Int) < (L.length : Int)) = true := decide_eq_true (by omega)
            have hlp3 : decide (0 < L.length) = true := decide_eq_true hlp2
            have hLm : L.length ≤ 9223372036854775807 := by have := hat.1; have := hat.2.1; omega
            clear hat hnd2 hdd hdo hfr hnok hLc hb4 hg hst hcell hne
            go_wp2_with fail
            go_ret
            exact ⟨ret_bool HV.out.symm, HB4.out⟩
        · obtain rfl : n = k := by omega
          have HV := Lib.hid (show safeB s = true by
            unfold safeB
            rw [HO.out, Bool.true_and, List.all_eq_true]
            intro i hi
            rw [List.mem_range, ← HN.out] at hi
            exact H4.out.1 i hi)
          clear hp
          go_wp2_with fail
          go_ret
          exact ⟨ret_bool HV.out.symm, H4.out.2.2.2.2.2⟩
end Go.Proofs.Ytohogojphnlhpaa

/- bounds of what BuildAll and CircleOf answer (pure) -/
namespace Go.Proofs.Ytohogojphnlhpaa

theorem cyc_bd {ch : Int → List Int} {ok : Int → Bool} {P : Int → Prop} (hx : ∀ k j, nxt ch ok k = some j → P j) : ∀ (f : Nat) (U : List Int) (k : Int), (∀ x ∈ U, P x) → P k → (∀ x ∈ cyc ch ok f U k, P x) ∧ (cyc ch ok f U k).length ≤ U.length + f
  | 0, U, k, _, _ => by unfold cyc; simp
  | f + 1, U, k, hU, hk => by
    unfold cyc
    split
    · exact ⟨fun x h => hU x (List.mem_of_mem_drop h), by rw [List.length_drop]; omega⟩
    · split
      · rename_i j hj
        obtain ⟨h1, h2⟩ := cyc_bd hx f (U ++ [k]) j (fun x h => by
          rcases List.mem_append.1 h with h | h
          · exact hU x h
          · rw [List.mem_singleton.1 h]; exact hk) (hx k j hj)
        exact ⟨h1, by rw [List.length_append, List.length_singleton] at h2; omega⟩
      · exact ⟨by simp, by simp⟩

theorem sh_len {s : Sh} (h : s.ok = true) : s.m.length ≤ 10 := by
  unfold Sh.ok at h
  simp only [Bool.and_eq_true, decide_eq_true_eq] at h
  omega

theorem coL_bd (s : Sh) (l : List Int) (key : Int) : (∀ x ∈ coL s l key, 0 ≤ x ∧ x < 10) ∧ (coL s l key).length ≤ 11 := by
  unfold coL
  split
  · rename_i hb
    unfold coB at hb
    rw [Bool.and_eq_true, Bool.and_eq_true, decide_eq_true_eq] at hb
    obtain ⟨⟨hin, hk⟩, _⟩ := hb
    obtain ⟨hok, _, _⟩ := inOk_of hin
    have hn := sh_len hok
    have hg := gr_S hok l
    have hP : ∀ j, okS s l j = false → 0 ≤ j ∧ j < 10 := by
      intro j hj
      have hd : (fun k => !s.mdI k) j = false := by
        cases hd : (fun k => !s.mdI k) j
        · rfl
        · rw [hg.d0ok j hd] at hj; cases hj
      have := hg.inn j hd
      omega
    obtain ⟨h1, h2⟩ := cyc_bd (ch := chS s l) (ok := okS s l) (P := fun j => 0 ≤ j ∧ j < 10) (fun k j hj => hP j (nxt_some hj).2) (s.m.length + 1 - 0) [] key (by simp) (by omega)
    unfold circ
    exact ⟨h1, by simpa using Nat.le_trans h2 (by simp; omega)⟩
  · exact ⟨by simp, by simp⟩

theorem baL_bd (s : Sh) (l : List Int) : (∀ x ∈ baL s l, 0 ≤ x ∧ x ≤ 96) ∧ (baL s l).length ≤ 10 := by
  unfold baL
  split
  · rename_i hb
    unfold baB at hb
    rw [Bool.and_eq_true] at hb
    obtain ⟨hin, _⟩ := hb
    have hn := sh_len (inOk_of hin).1
    unfold baVs
    refine ⟨fun x hx => ?_, by simpa using hn⟩
    obtain ⟨i, _, rfl⟩ := List.mem_map.1 hx
    exact vsS_bd hin _
  · exact ⟨by simp, by simp⟩
end Go.Proofs.Ytohogojphnlhpaa

/- the walk of laws.FnSheetSafe -/
namespace Go.Proofs.Ytohogojphnlhpaa
open Go.RowKit

/-- What is safe is built with all inputs. -/
theorem safe_ok {s : Sh} (h : s.ok = true) (l : List Int) : ∀ (r : Nat) (k : Int), rkG (chM s) (fun k => !s.mdI k) k ≤ r → okM s k = true → okS s l k = true := by
  intro r
  induction r with
  | zero =>
    intro k hr hk
    cases hd : (fun k => !s.mdI k) k
    · refine (gr_S h l).up k fun j hj => ?_
      have hf := tkI_fit h k
      have hm := kys_may _ (s.tkI k) hf j hj
      have hb := (T.kys_bd _ (s.tkI k) hf).1 j hj
      have := ((gr_M s).down k hk hd j (mayI_mem.2 ⟨hb.1, by omega, hm⟩)).2
      omega
    · exact (gr_S h l).d0ok k hd
  | succ r ih =>
    intro k hr hk
    cases hd : (fun k => !s.mdI k) k
    · refine (gr_S h l).up k fun j hj => ?_
      have hf := tkI_fit h k
      have hm := kys_may _ (s.tkI k) hf j hj
      have hb := (T.kys_bd _ (s.tkI k) hf).1 j hj
      have hj' := (gr_M s).down k hk hd j (mayI_mem.2 ⟨hb.1, by omega, hm⟩)
      exact ih j (by omega) hj'.1
    · exact (gr_S h l).d0ok k hd
theorem safe_all {s : Sh} {l : List Int} (h : safeB s = true) (hl : l.length = s.m.length) (hv : vok l = true) : baB s l = true := by
  unfold safeB at h
  rw [Bool.and_eq_true, List.all_eq_true] at h
  unfold baB inOk baTo
  rw [h.1, hv, hl]
  simp only [decide_true, Bool.true_and, List.all_eq_true]
  exact fun i hi => safe_ok h.1 l _ _ (Nat.le_refl _) (h.2 i hi)

theorem vok_rep (n : Nat) (x : Int) (hn : n ≤ 10) (h0 : 0 ≤ x) (h1 : x ≤ 96) : vok (List.replicate n x) = true := by
  unfold vok
  simp only [List.length_replicate, Bool.and_eq_true, decide_eq_true_eq, List.all_eq_true]
  refine ⟨hn, fun v hv => ?_⟩
  rw [List.eq_of_mem_replicate hv]
  simp [vin]; omega

theorem irow_ints {w : World} {g n : Nat} {l : List Int} (h : IRow w g n l) (hl : l.length = n) (hn : n ≤ 9223372036854775807) (hok : ∀ x ∈ l, i64ok x) : IntsAt w (fun b => b = g) l (some ⟨g, 0, none⟩) n := by
  obtain ⟨cs, h1, h2, h3⟩ := h
  refine ⟨by omega, hn, hok, .inr ⟨g, 0, rfl, rfl, fun i hi => ?_⟩⟩
  rw [Nat.zero_add]
  exact (Blk.cell h1 i).trans (h3 i hi)
theorem ba_any {s : Sh} {l : List Int} {z : Bool} (hz : z = baB s l) {W W' : World} {e : Ending} (h : BaPost s l W e W') : Below W.heap.size W W' ∧ ∃ (a : Option Addr) (n c : Nat), e = .returned (.tuple #[.slice a n c, .bool z]) := by
  obtain ⟨hb, v, rfl, hr⟩ := h
  obtain ⟨a, c, rfl, _⟩ := hr.at (fun x hx => by have := (baL_bd s l).1 x hx; unfold i64ok; omega)
  exact ⟨hb, a, _, c, by rw [hz]⟩
theorem all_rep {s : Sh} {m : Nat} (hm : m = s.m.length) (x : Int) (W : World) (S S' : Nat → Prop) (av : Option Addr) (cv : Nat) (a' : Option Addr) (c' : Nat) (g : Nat) (h : ShAt W S s av cv a' c') (hi : IntsAt W S' (List.replicate m x) (some ⟨g, 0, none⟩) m) :
    Calls Try.prog 19 #[.agg #[.slice av m cv, .slice a' s.t.length c'], .slice (some ⟨g, 0, none⟩) m m] W (BaPost s (List.replicate m x) W) := by
  have := implAll_any s (List.replicate m x) W S S' av cv a' c' (some ⟨g, 0, none⟩) m h hi
  rw [List.length_replicate, ← hm] at this
  exact this
theorem below_fr {w w4 wr : World} {D : Nat → Prop} (h : Below w.heap.size w w4) (hf : Fr D w4 wr) (hD : ∀ b, D b → w.heap.size ≤ b) : Below w.heap.size w wr :=
  ⟨hf.1.trans h.os, hf.2.1.trans h.tape, hf.2.2.1.trans h.output, Nat.le_trans h.size hf.size, fun b hb => (hf.2.2.2.2 b (Nat.lt_of_lt_of_le hb h.size) (fun hd => by have := hD b hd; omega)).trans (h.block b hb)⟩
theorem rep_ok (m : Nat) (x : Int) (h : x = 0 ∨ x = 1) : ∀ y ∈ List.replicate m x, i64ok y := fun y hy => by
  rw [List.eq_of_mem_replicate hy]; unfold i64ok; omega
theorem irow_made (w : World) (n : Nat) : IRow (w.alloc (.cells (madeCells #[.int .i64 0] n) 3)) w.heap.size n (List.replicate n 0) := by
  refine ⟨_, heap_alloc_new w _, by rw [size_madeCells], fun i hi => ?_⟩
  have hi' : i < n := by simpa using hi
  have : (madeCells #[Value.int .i64 0] n).toList[i]? = some (.int .i64 0) := by rw [toList_madeCells_one]; simp [hi']
  simpa using this

set_option maxRecDepth 100000 in
set_option maxHeartbeats 4000000 in
theorem walk_sheetSafe (w : World) (a : Option Addr) (n c : Nat) (h : CodeAt w a n c) :
    Calls Try.prog 8 #[.slice a n c] w fun e w' => e = .returned (.bool true) ∧ Below w.heap.size w w' := by
  have hn := h.1
  have hc := h.2.1
  have HC := Lib.hid h
  clear h
  by_cases hl : 1048576 < n
  · go_enter Try.func8, Try.ntmps8
    go_wp2_with fail
    go_ret
    exact ⟨rfl, Below.refl _ _⟩
  go_enter Try.func8, Try.ntmps8
  go_wp2_with fail
  refine (drawSheetSafe_any _ a n c HC.out).mono ?_
  rintro e w1 ⟨s, v, a', c', rfl, hsh, htl, hml, hnl, hb⟩
  obtain ⟨av, cv, rfl, hat⟩ := hsh.at
  have hsz1 := hb.size
  have HT1 := Lib.hid (hat.alloc (.cells #[.slice av s.m.length cv, .slice a' s.t.length c'] 26))
  have HB1 := Lib.hid (Blk.new w1 26 #[.slice av s.m.length cv, .slice a' s.t.length c'])
  have HX1 := Lib.hid (hb.alloc hsz1 (.cells #[.slice av s.m.length cv, .slice a' s.t.length c'] 26))
  obtain ⟨x, hx⟩ : ∃ x, x = safeB s := ⟨_, rfl⟩
  have HXX := Lib.hid hx
  obtain ⟨m, hm⟩ : ∃ m, m = s.m.length := ⟨_, rfl⟩
  have HM := Lib.hid hm
  have hm8 : m ≤ 8 := by omega
  clear hsh hat hb HC hx htl hm
  go_wp2_with fail
  refine (implSafe_any s _ _ av cv a' c' HT1.out).mono ?_
  rintro e w2 ⟨rfl, hb⟩
  rw [← HXX.out]
  have hsz2 := hb.size
  simp only [World.size_alloc] at hsz2
  have HT2 := Lib.hid (HT1.out.below hb)
  have HB2 := Lib.hid (HB1.out.below hb (by simp))
  have HX2 := Lib.hid (HX1.out.trans (hb.mono (by simp; omega)))
  clear hb HT1 HB1 HX1
  obtain ⟨x0, x1, f0, f1⟩ := HB2.out.two
  go_wp2_with fail
  refine (specSafe_any s _ _ av cv a' c' HT2.out (by omega)).mono ?_
  rintro e w3 ⟨rfl, hb⟩
  rw [← HXX.out]
  have hsz3 := hb.size
  have HT3 := Lib.hid (HT2.out.below hb)
  have hb3 := HB2.out.below hb (by omega)
  have HB3 := Lib.hid hb3
  have HX3 := Lib.hid (HX2.out.trans (hb.mono (by omega)))
  clear hb HT2 HB2 HX2 x0 x1 f0 f1
  have hne : (x != x) = false := by simp
  obtain ⟨i0, hi, hz0, hz1, hz2⟩ := info_parts infoInt
  have hmk := fun W => run_make_rowN (P := Try.prog) 30 3 i0 _ Try.underlying30 hi hz0 .i64 .i64 m m (Nat.le_refl _) (by rw [hz2]; omega) (by omega) W
  rw [hz1] at hmk
  have HMK := Lib.hid hmk
  obtain ⟨x0, x1, f0, f1⟩ := hb3.two
  rw [← HM.out] at x0
  clear hb3
  go_wp2_with fail
  clear hne hmk x0 x1 f0 f1
  have H4 := Lib.hid (irow_made w3 m)
  have HT4 := Lib.hid (HT3.out.alloc (.cells (madeCells #[.int .i64 0] m) 3))
  have HB4 := Lib.hid (HB3.out.alloc (.cells (madeCells #[.int .i64 0] m) 3))
  have HX4 := Lib.hid (HX3.out.alloc (by omega) (.cells (madeCells #[.int .i64 0] m) 3))
  go_loopw [8] (fun i wr => ∃ k : Nat, k ≤ m ∧ i = .int .i64 k ∧ IRow wr w3.heap.size m (List.replicate k 1) ∧ Fr (fun b => b = w3.heap.size) (w3.alloc (.cells (madeCells #[.int .i64 0] m) 3)) wr) (fun i _ => m - (intOf i).toNat)
  case atStart => exact ⟨0, by omega, rfl, (by obtain ⟨cs, h1, h2, h3⟩ := H4.out; exact ⟨cs, h1, h2, by simp⟩), Fr.of_below (Below.refl _ _)⟩
  case round =>
    obtain ⟨k, hk, rfl, hir, hfr⟩ := hrel
    have HI := Lib.hid hir
    have HFR := Lib.hid hfr
    have hszr := hfr.size
    simp only [World.size_alloc] at hszr
    by_cases hlt : k < m
    · have hset := hir.set_snoc (by simpa using hlt) 1
      rw [List.length_replicate, ← List.replicate_succ'] at hset
      have HSET := Lib.hid hset
      have HF2 := Lib.hid (hfr.set' ⟨w3.heap.size, k, none⟩ rfl (.int .i64 1))
      obtain ⟨y0, f0⟩ : (∃ u, wr.cell? ⟨w3.heap.size, k, none⟩ = some u) ∧ wr.frozen? ⟨w3.heap.size, k, none⟩ = false := by
        obtain ⟨cs, h1, h2, _⟩ := hir
        exact ⟨⟨cs[k]'(by omega), by rw [Blk.cell (w := wr) h1]; exact Array.getElem?_eq_getElem _⟩, Blk.frozen (w := wr) h1 k⟩
      obtain ⟨u, y0⟩ := y0
      clear hir hfr hset
      go_wp2_with fail
      go_roundw
      case rel => exact ⟨k + 1, by omega, by go_num, HSET.out, HF2.out⟩
      case measure => simp [intOf]; omega
    · obtain rfl : m = k := by omega
      have hd : ∀ b, b = w3.heap.size → w.heap.size ≤ b := fun b h => by omega
      have HXR := Lib.hid (below_fr HX4.out hfr hd)
      have hbr := HB4.out.fr' hfr (by omega)
      have HBR := Lib.hid hbr
      have HTR := Lib.hid (HT4.out.keep (fun _ h => h) (fun b hb hl => hfr.2.2.2.2 b hl (by omega)))
      have HIR := Lib.hid (irow_ints hir (by simp) (by omega) (rep_ok m 1 (.inr rfl)))
      obtain ⟨z, hz⟩ : ∃ z, z = baB s (List.replicate m 0) := ⟨_, rfl⟩
      obtain ⟨o, ho⟩ : ∃ z, z = baB s (List.replicate m 1) := ⟨_, rfl⟩
      have HZ := Lib.hid hz
      have HO := Lib.hid ho
      have hzo : x = true → z = true ∧ o = true := fun h => ⟨by rw [hz]; exact safe_all (by rw [← HXX.out]; exact h) (by rw [List.length_replicate]; exact HM.out) (vok_rep m 0 (by omega) (by omega) (by omega)),
        by rw [ho]; exact safe_all (by rw [← HXX.out]; exact h) (by rw [List.length_replicate]; exact HM.out) (vok_rep m 1 (by omega) (by omega) (by omega))⟩
      have HZO := Lib.hid hzo
      clear hir hfr hz ho hzo hd
      obtain ⟨x0, x1, f0, f1⟩ := hbr.two
      rw [← HM.out] at x0
      clear hbr
      have hz0 : IntsAt (wr.alloc (.cells (madeCells #[.int .i64 0] m) 3)) (fun b => b = wr.heap.size) (List.replicate m 0) (some ⟨wr.heap.size, 0, none⟩) m := irow_ints (irow_made wr m) (by simp) (by omega) (rep_ok m 0 (.inl rfl))
      have hz1 : IntsAt (wr.alloc (.cells (madeCells #[.int .i64 0] m) 3)).drew (fun b => b = wr.heap.size) (List.replicate m 0) (some ⟨wr.heap.size, 0, none⟩) m := hz0.below (Below.refl _ _).drew
      have HC14 := Lib.hid (all_rep HM.out 0 _ _ _ av cv a' c' wr.heap.size ((HTR.out.alloc (.cells (madeCells #[.int .i64 0] m) 3)).drew) hz1)
      clear hz0 hz1
      have q1 : w1.heap.size < wr.heap.size := by omega
      have q2 : w1.heap.size ≠ wr.heap.size := by omega
      have q3 : wr.heap.size ≠ w1.heap.size := by omega
      obtain ⟨p0, p1, _, _⟩ := (HBR.out.alloc (.cells (madeCells #[.int .i64 0] m) 3)).two
      rw [← HM.out] at p0
      have hmk := HMK.out
      go_wp2_with fail
      go_region_with (go_at_call 19; refine HC14.out.mono ?_; intro e w5 hp; obtain ⟨hb5, a5, n5, c5, rfl⟩ := ba_any HZ.out hp)
      all_goals
        have hs5 := hb5.size
        simp only [World.size_alloc, World.size_drew] at hs5
        have hbl : Below wr.heap.size wr w5 := ((Below.refl wr.heap.size wr).alloc (Nat.le_refl _) (.cells (madeCells #[.int .i64 0] m) 3)).drew.trans (hb5.mono (by simp))
        have HT5 := Lib.hid (HTR.out.below hbl)
        have HI5 := Lib.hid (HIR.out.below hbl)
        have HX5 := Lib.hid (HXR.out.trans (hbl.mono (by omega)))
        have hbk5 := HBR.out.below hbl HBR.out.lt
        clear x0 x1 f0 f1 p0 p1 hb5 hbl hmk
        obtain ⟨x0, x1, f0, f1⟩ := hbk5.two
        rw [← HM.out] at x0
        clear hbk5
        go_wp2_with fail
        refine (all_rep HM.out 1 _ _ _ av cv a' c' _ HT5.out HI5.out).mono ?_
        intro e w6 hp
        obtain ⟨hb6, a6, n6, c6, rfl⟩ := ba_any HO.out hp
        have HX6 := Lib.hid (HX5.out.trans (hb6.mono (by omega)))
        clear hb6 hp
        cases x
        · go_wp2_with fail
          go_ret
          exact ⟨rfl, HX6.out⟩
        · obtain ⟨rfl, rfl⟩ := HZO.out rfl
          go_wp2_with fail
          go_ret
          exact ⟨rfl, HX6.out⟩
end Go.Proofs.Ytohogojphnlhpaa

/- For every code the law FnSheetSafe answers true: a drawn sheet that is safe is built with noughts and with ones, and SheetSafe answers as its model. No condition. -/
namespace Go.Proofs.Ytohogojphnlhpaa
open Go.ChangeShapes Go.WideShapes Go.ChangeAt Go.RowKit Go.Joins

set_option maxRecDepth 100000 in
theorem sheetSafe_lifted (os : Os) (started : os.Started) (H : Type) (enc : TypeId × Value → H) :
    ReturnsInHanded {} Try.checked os 8 .any (Rows.fnSheetSafeSpec.pre6 enc Try.prog Try.f8 Rows.fnSheetSafeRow.domain false) (Rows.fnSheetSafeSpec.post enc Try.prog Try.f8 false true false false) := by
  refine returnsInHanded_of_change (C := Try.checked) own started (by kernel_rfl) Try.func8
    (ChangeSpec.witness6 (enc := enc) (C := Try.checked) false ⟨#[], #[.slice none 0 0], []⟩ 8 (by kernel_rfl) (by kernel_rfl) (by kernel_rfl) (by kernel_rfl)) ?_
  intro W base args ds gs before hval0 hW _ _
  have hval : ∀ (j : Nat) t v, Try.f8.params[j]? = some t → args[j]? = some v → Value.okWide Try.prog W .any base t v := hval0
  have hW' := hW
  obtain ⟨p, q, hA0, hV, rfl, _, _⟩ := hW
  have hA : DataW.TrodAll enc Try.prog W 0 (fun _ => true) true Try.f8.params.toList args.toList ds p := hA0
  rw [Try.params8] at hA hval
  obtain ⟨v0, d0, rfl, rfl, h0⟩ := trodAll_one hA
  obtain ⟨rfl, rfl⟩ := trodVars_none hV
  obtain ⟨a, n, c, rfl, hcode⟩ := open_code Try.underlying22 Try.underlying5 cellsByte (okWide_slice Try.underlying22 (hval 0 22 v0 rfl rfl)) h0
  refine (walk_sheetSafe W a n c hcode).mono fun e W' ⟨he, hb⟩ => ?_
  subst he
  exact ⟨_, rfl, law_post laidOut rfl rfl Try.underlying4 (by intro t ht; rw [Try.params8] at ht; simp at ht; subst ht; exact ⟨by kernel_rfl, of_decide_eq_true (by kernel_rfl)⟩) rfl rfl rfl hW' hb⟩

theorem sheetSafe_holds : Rows.FnSheetSafeSaid :=
  OpenClaim.holds_of_wide 8 Try.f8 rfl rfl rfl rfl rfl rfl rfl ⟨rfl, rfl, rfl, rfl, rfl⟩ rfl rfl rfl rfl rfl (by kernel_rfl) Try.func8 (by kernel_rfl)
    (of_decide_eq_true (by kernel_rfl)) (by unfold Func.isWrapper; first | (rw [if_pos (by decide +kernel)]; kernel_rfl) | (rw [if_neg (by decide +kernel)]; exact ⟨rfl, rfl⟩))
    (fun os started H enc _ => sheetSafe_lifted os started H enc)
#print axioms sheetSafe_holds
end Go.Proofs.Ytohogojphnlhpaa
