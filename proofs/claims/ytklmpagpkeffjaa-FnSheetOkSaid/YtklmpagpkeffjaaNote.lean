/- the closures of impl.TaskFetches: what is fetched is noted -/
import Derived.Test.YtklmpagpkeffjaaRow
import Derived.Test.YtklmpagpkeffjaaFrom
namespace Go.Proofs.Ytklmpagpkeffjaa
open Go.RowKit

/-- One more fetch is put to the list in block gl. -/
def NotePost (vs : Int → Int) (w : World) (base gl : Nat) (vo : Value) (ks : List Int) (e : Ending) (w' : World) : Prop :=
  e = .returned (.tuple #[]) ∧ ∃ v', Blk w' gl 92 #[v'] ∧ FeRow vs w' base v' ks ∧ Fr (fun b => b = gl ∨ vo.ownBlock = some b) w w' ∧ ∀ b, v'.ownBlock = some b → vo.ownBlock = some b ∨ w.heap.size ≤ b

set_option maxHeartbeats 1000000 in
theorem note_any (vs : Int → Int) (w : World) (base gl : Nat) (vo : Value) (ks : List Int) (k x : Int) (hx : x = vs k) (hk : ks.length ≤ 100) (hb : Blk w gl 92 #[vo]) (hr : FeRow vs w base vo ks) (hgl : gl < base) (hbs : base ≤ w.heap.size) :
    Calls Try.prog 112 #[.agg #[.int .i64 k, .int .i64 x], .pointer (some ⟨gl, 0, none⟩)] w (NotePost vs w base gl vo (ks ++ [k])) := by
  obtain ⟨iF, fi, fz0, fz1, fz2⟩ := info_parts infoFetch
  have HIF := Lib.hid (And.intro fi (And.intro fz0 (And.intro fz1 fz2)))
  have hml : maxLen = 9223372036854775807 := rfl
  have HML := Lib.hid hml
  have HX := Lib.hid hx
  have HR := Lib.hid (hr.alloc (.cells #[.int .i64 k, .int .i64 x] 96))
  have HB := Lib.hid hb
  have hx0 : w.cell? ⟨gl, 0, none⟩ = some vo := hb.cell 0
  have hlt : gl < w.heap.size := hb.lt
  clear fi fz0 fz1 fz2 hml hx hr hb
  go_enter Try.func112, Try.ntmps112
  go_wp2_with (at_builtin; refine wpList_append_row _ rfl (.tmp 3) (.tmp 5) 92 rfl base 96 iF (.agg #[.int .i64 0, .int .i64 0]) 2 16 Try.underlying92 HIF.out.1 HIF.out.2.1 HIF.out.2.2.1 HIF.out.2.2.2 rfl (by decide) vo ks.length (fc vs ks) rfl (HR.out.alloc _) ⟨w.heap.size + 1, 0, none⟩ 1 1 [.int .i64 k, .int .i64 x] rfl rfl ?c1 ?c2 (by decide) ?c3 ?c4 ?c5 ?_)
  case c1 => have h := news2 (w.alloc (.cells #[.int .i64 k, .int .i64 x] 96)) 96 (.int .i64 k) (.int .i64 x); rw [World.size_alloc] at h; exact h
  case c2 => simp [Value.oneCell']
  case c3 => rw [HML.out]; omega
  case c4 => omega
  case c5 => simp; omega
  intro v' w1 hown hgr hnew
  obtain ⟨gr, cap, rfl⟩ := own_some hown (by omega)
  have hge := own_ge HR.out
  have hb1 : Blk w1 gl 92 #[vo] := (hgr.block gl (by simp; omega) (by intro e; have := hge gl e.symm; omega)).trans ((HB.out.alloc (.cells #[.int .i64 k, .int .i64 x] 96)).alloc (.cells #[.int .i64 k, .int .i64 x] 96))
  have hfc : fc vs [k] = [.int .i64 k, .int .i64 x] := by simp [fc, HX.out]
  have hF1 : FeRow vs w1 base (.slice (some ⟨gr, 0, none⟩) (ks.length + 1) cap) (ks ++ [k]) := by
    unfold FeRow
    rw [fc_append, hfc, show (ks ++ [k]).length = ks.length + 1 by simp]
    exact hown
  have hge' := own_ge hF1
  have hF2 : FeRow vs (w1.setCell ⟨gl, 0, none⟩ (.slice (some ⟨gr, 0, none⟩) (ks.length + 1) cap)) base (.slice (some ⟨gr, 0, none⟩) (ks.length + 1) cap) (ks ++ [k]) := ownsRow_setCell_other hF1 (a := ⟨gl, 0, none⟩) (by
    intro e; have := hge' gl e; omega) (.slice (some ⟨gr, 0, none⟩) (ks.length + 1) cap)
  have hfr : Fr (fun b => b = gl ∨ vo.ownBlock = some b) w (w1.setCell ⟨gl, 0, none⟩ (.slice (some ⟨gr, 0, none⟩) (ks.length + 1) cap)) := by
    have hs := hgr.size
    simp only [World.size_alloc] at hs
    refine ⟨hgr.os, hgr.tape, hgr.output, by simp [World.setCell]; omega, fun b hb hn => ?_⟩
    rw [Below.heap_setCell w1 ⟨gl, 0, none⟩ (.slice (some ⟨gr, 0, none⟩) (ks.length + 1) cap) b (fun e => hn (.inl e)), hgr.block b (by simp; omega) (fun e => hn (.inr e.symm)), Below.heap_alloc _ _ _ (by simp; omega), Below.heap_alloc _ _ _ hb]
  have hB2 := hb1.set_ 0 (.slice (some ⟨gr, 0, none⟩) (ks.length + 1) cap)
  have hN : ∀ b, (Value.slice (some ⟨gr, 0, none⟩) (ks.length + 1) cap).ownBlock = some b → vo.ownBlock = some b ∨ w.heap.size ≤ b := fun b hb => by
    rcases hnew b hb with h | h
    · exact .inl h
    · exact .inr (by omega)
  have H := Lib.hid (And.intro (show Blk (w1.setCell ⟨gl, 0, none⟩ (.slice (some ⟨gr, 0, none⟩) (ks.length + 1) cap)) gl 92 #[(.slice (some ⟨gr, 0, none⟩) (ks.length + 1) cap)] from hB2) (And.intro hF2 (And.intro hfr hN)))
  have hy0 : w1.cell? ⟨gl, 0, none⟩ = some vo := hb1.cell 0
  have hyf : w1.frozen? ⟨gl, 0, none⟩ = false := hb1.frozen 0
  clear hown hgr hnew hge hb1 hfc hF1 hge' hF2 hfr hB2 hN HB HR HX
  go_wp2_with fail
  go_end0
  exact ⟨rfl, _, H.out.1, H.out.2.1, H.out.2.2.1, H.out.2.2.2⟩

/-- What the closure of impl.noting keeps track of. -/
def NoteI (S : Nat → Prop) (lv : List Int) (a : Option Addr) (c gv gf gn gl base : Nat) (ks : List Int) (D : Nat → Prop) (w : World) : Prop :=
  IntsAt w S lv a c ∧ Blk w gv 30 #[.slice a lv.length c] ∧ Blk w gf 126 #[.func (.func 130) #[] #[.pointer (some ⟨gv, 0, none⟩)]] ∧
    Blk w gn 129 #[.func (.func 112) #[] #[.pointer (some ⟨gl, 0, none⟩)]] ∧
    (gv < base ∧ gf < base ∧ gn < base ∧ gl < base ∧ gl ≠ gv ∧ gl ≠ gf ∧ gl ≠ gn ∧ (∀ b, S b → b < base ∧ b ≠ gl) ∧ base ≤ w.heap.size) ∧
    ∃ vo, Blk w gl 92 #[vo] ∧ FeRow (vf lv) w base vo ks ∧ ∀ b, D b ↔ (b = gl ∨ vo.ownBlock = some b)

theorem IntsAt.fr {w w' : World} {S D : Nat → Prop} {l : List Int} {a : Option Addr} {c : Nat} (h : IntsAt w S l a c) (hf : Fr D w w') (hS : ∀ b, S b → ¬ D b) : IntsAt w' S l a c :=
  h.keep (fun _ h => h) (fun b hb hl => hf.2.2.2.2 b hl (hS b hb))

theorem Fr.weaken {D D' : Nat → Prop} {w w' : World} (h : Fr D w w') (hd : ∀ b, D b → D' b) : Fr D' w w' := ⟨h.1, h.2.1, h.2.2.1, h.2.2.2.1, fun b hb hn => h.2.2.2.2 b hb (fun hx => hn (hd b hx))⟩

set_option maxHeartbeats 1000000 in
theorem noting_any (S : Nat → Prop) (lv : List Int) (a : Option Addr) (c gv gf gn gl base : Nat) (ks : List Int) (D : Nat → Prop) (w : World) (k : Int) (h0 : 0 ≤ k) (h9 : k ≤ 9) (hk : ks.length ≤ 100) (hI : NoteI S lv a c gv gf gn gl base ks D w) :
    Calls Try.prog 129 #[.int .i64 k, .pointer (some ⟨gf, 0, none⟩), .pointer (some ⟨gn, 0, none⟩)] w fun e w' => e = .returned (.int .i64 (vf lv k)) ∧ ∃ D', NoteI S lv a c gv gf gn gl base (ks ++ [k]) D' w' ∧ Fr D w w' ∧ ∀ b, D' b → D b ∨ w.heap.size ≤ b := by
  have HI := Lib.hid hI
  obtain ⟨hl, hv, hf, hn, ⟨b1, b2, b3, b4, b5, b6, b7, b8, b9⟩, vo, ho, hr, hD⟩ := hI
  have hx0 := hf.cell 0
  have hx1 := hn.cell 0
  simp only [List.getElem?_toArray, List.getElem?_cons_zero] at hx0 hx1
  have HL := Lib.hid hl
  have HV := Lib.hid hv
  have HO := Lib.hid ho
  have HR := Lib.hid hr
  have HD := Lib.hid hD
  have HB8 := Lib.hid b8
  obtain ⟨x, hx⟩ : ∃ x, x = vf lv k := ⟨_, rfl⟩
  have HX := Lib.hid hx
  rw [← hx]
  clear hl hv hf hn ho hr hD hx b8
  have eg : ∀ args w, (callFunc 130 args).run Try.prog w = .ok (.enter 130 args) w := enters_of Try.func130 (by kernel_rfl) rfl
  have eg2 : ∀ args w, (callFunc 112 args).run Try.prog w = .ok (.enter 112 args) w := enters_of Try.func112 (by kernel_rfl) rfl
  go_enter Try.func129, Try.ntmps129
  go_wp2_with fail
  refine (fetch_any w S lv a c gv HL.out HV.out k h0 (by omega)).mono ?_
  rintro e w' ⟨rfl, rfl⟩
  rw [← HX.out]
  go_wp2_with fail
  refine (note_any (vf lv) w base gl vo ks k x HX.out hk HO.out HR.out b4 b9).mono ?_
  rintro e w1 ⟨rfl, v', h1, h2, h3, h4⟩
  have hge := own_ge HR.out
  have hnd : ∀ b, b < base → b ≠ gl → ¬ (b = gl ∨ vo.ownBlock = some b) := fun b hb hne h => by
    rcases h with h | h
    · exact hne h
    · have := hge b h; omega
  have hsz := h3.size
  have HN := Lib.hid (show NoteI S lv a c gv gf gn gl base (ks ++ [k]) (fun b => b = gl ∨ v'.ownBlock = some b) w1 from
    ⟨HL.out.fr h3 (fun b hb => hnd b (HB8.out b hb).1 (HB8.out b hb).2), HV.out.fr h3 (hnd gv b1 b5.symm), HI.out.2.2.1.fr h3 (hnd gf b2 b6.symm), HI.out.2.2.2.1.fr h3 (hnd gn b3 b7.symm),
      ⟨b1, b2, b3, b4, b5, b6, b7, HB8.out, by omega⟩, v', h1, h2, fun b => Iff.rfl⟩)
  have HF := Lib.hid (And.intro (h3.weaken (fun b hb => (HD.out b).2 hb)) h4)
  clear h1 h2 h3 h4 hge hnd
  go_wp2_with fail
  go_ret
  refine ⟨rfl, _, HN.out, HF.out.1, fun b hb => ?_⟩
  rcases hb with hb | hb
  · exact .inl ((HD.out b).2 (.inl hb))
  · rcases HF.out.2 b hb with h | h
    · exact .inl ((HD.out b).2 (.inr h))
    · exact .inr h
end Go.Proofs.Ytklmpagpkeffjaa
