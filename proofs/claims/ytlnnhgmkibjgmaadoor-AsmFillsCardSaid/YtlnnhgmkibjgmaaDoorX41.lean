/- The program's Data. -/
import Derived.Test.YtlnnhgmkibjgmaaDoorX39
import Derived.Test.YtlnnhgmkibjgmaaDoorX30
set_option linter.unusedVariables false
set_option linter.unusedSimpArgs false
namespace Go.Proofs.YtlnnhgmkibjgmaaDoor
open Go Go.RowKit Go.Maps Oj Al

set_option maxHeartbeats 4000000 in
set_option maxRecDepth 100000 in
theorem adata_2 (nm bs : ByteArray) (bi sz : Int) (LN : List Nt) (an : Option Addr) (cn : Nat) (w : World) (hs : syFits ⟨by' nm, bi, 2, sz, by' bs, [], LN⟩) (hN : NotesAt w (.slice an LN.length cn) LN) :
    Calls Tryd.prog 13 #[.string nm, .int .u8 bi, .int .u8 2, .int .u32 sz, .string bs, .slice an LN.length cn] w (MkPost w (datE ⟨by' nm, bi, 2, sz, by' bs, [], LN⟩) (datS ⟨by' nm, bi, 2, sz, by' bs, [], LN⟩)) := by
  have hk1 : symOk ⟨by' nm, bi, 2, sz, by' bs, [], LN⟩ = true → datE ⟨by' nm, bi, 2, sz, by' bs, [], LN⟩ = 0 ∧ datS ⟨by' nm, bi, 2, sz, by' bs, [], LN⟩ = ⟨by' nm, bi, 2, sz, by' bs, [], LN⟩ := fun h => by unfold datE datS; rw [if_pos ⟨by simp, h⟩, if_pos ⟨by simp, h⟩]; exact ⟨rfl, rfl⟩
  have hk2 : symOk ⟨by' nm, bi, 2, sz, by' bs, [], LN⟩ = false → datE ⟨by' nm, bi, 2, sz, by' bs, [], LN⟩ = 2 ∧ datS ⟨by' nm, bi, 2, sz, by' bs, [], LN⟩ = Sy.nought := fun h => by unfold datE datS; rw [if_neg (fun e => by rw [h] at e; exact absurd e.2 (by decide)), if_neg (fun e => by rw [h] at e; exact absurd e.2 (by decide))]; exact ⟨rfl, rfl⟩
  have HALL : Hid (∀ e w', MadP w w.heap.size ⟨by' nm, bi, 2, sz, by' bs, [], LN⟩ e w' → ∃ n0 b0 k0 s0 t0 a5 l5 c5 a6 l6 c6 E, e = .returned (.tuple #[.agg #[.string n0, .int .u8 b0, .int .u8 k0, .int .u32 s0, .string t0, .slice a5 l5 c5, .slice a6 l6 c6], .int .i64 E]) ∧ Blk w' w.heap.size 29 zS ∧ ∀ w2, w'.grownBy w2 (some w.heap.size) → MkPost w (datE ⟨by' nm, bi, 2, sz, by' bs, [], LN⟩) (datS ⟨by' nm, bi, 2, sz, by' bs, [], LN⟩) (.returned (.tuple #[.agg #[.string n0, .int .u8 b0, .int .u8 k0, .int .u32 s0, .string t0, .slice a5 l5 c5, .slice a6 l6 c6], .int .i64 E])) w2) := Lib.hid (by
    intro e w' ⟨hb, ho, hm⟩
    have hlow : ∀ w2, w'.grownBy w2 (some w.heap.size) → Below w.heap.size w w2 := fun w2 hg => hb.grown hg hb.size (fun k hk => by cases hk; exact Nat.le_refl _)
    rcases hm with ⟨hk, vr, vn, he, hR, hN⟩ | ⟨hk, he⟩
    · obtain ⟨a5, c5, hv5⟩ := row_slice hR
      obtain ⟨a6, c6, hv6⟩ := row_slice hN
      subst hv5 hv6
      refine ⟨_, _, _, _, _, _, _, _, _, _, _, _, he, ho, fun w2 hg => ?_⟩
      rw [(hk1 hk).1, (hk1 hk).2]
      exact ⟨_, rfl, ⟨_, _, rfl, slC_of_row (fun _ _ => rfl) (World.ownsRow.kept hR hg (.inr (row_block ho hR (by decide)))), slC_of_row (fun _ _ => rfl) (World.ownsRow.kept hN hg (.inr (row_block ho hN (by decide))))⟩, hlow w2 hg⟩
    · refine ⟨_, _, _, _, _, _, _, _, _, _, _, _, he, ho, fun w2 hg => ?_⟩
      rw [(hk2 hk).1, (hk2 hk).2]
      exact ⟨_, rfl, sy_zero w2, hlow w2 hg⟩)
  have HB0 := Lib.hid (below_new2 w (.cells #[.string ⟨#[]⟩, .int .u8 0, .int .u8 0, .int .u32 0, .string ⟨#[]⟩, .slice none 0 0, .slice none 0 0] 29) (.cells #[.string nm, .int .u8 bi, .int .u8 2, .int .u32 sz, .string bs, .slice none 0 0, .slice an LN.length cn, .map none] 65))
  have HX0 := Lib.hid ((Blk.new w 29 zS).alloc (.cells #[.string nm, .int .u8 bi, .int .u8 2, .int .u32 sz, .string bs, .slice none 0 0, .slice an LN.length cn, .map none] 65))
  have HM0 := Lib.hid (Blk.new2 w (.cells #[.string ⟨#[]⟩, .int .u8 0, .int .u8 0, .int .u32 0, .string ⟨#[]⟩, .slice none 0 0, .slice none 0 0] 29) 65 [.string nm, .int .u8 bi, .int .u8 2, .int .u32 sz, .string bs, .slice none 0 0, .slice an LN.length cn, .map none])
  have HMD := Lib.hid (made_any ⟨by' nm, bi, 2, sz, by' bs, [], LN⟩ nm bs bi 2 sz (.slice none 0 0) (.slice an LN.length cn) (.map none) [] LN w _ (w.heap.size + 1) w.heap.size HX0.out hs rfl HB0.out (Nat.le_succ _) HM0.out (World.ownsRow_nil _ _ _ _) hN)
  obtain ⟨PE, hPE⟩ : ∃ P, P = datE ⟨by' nm, bi, 2, sz, by' bs, [], LN⟩ := ⟨_, rfl⟩
  obtain ⟨PS, hPS⟩ : ∃ P, P = datS ⟨by' nm, bi, 2, sz, by' bs, [], LN⟩ := ⟨_, rfl⟩
  rw [← hPE, ← hPS] at HALL ⊢
  clear hk1 hk2 hs hN hPE hPS HB0 HM0 HX0
  go_enter Tryd.func13, Tryd.ntmps13
  go_wp2_with fail
  refine HMD.out.mono ?_
  rintro e w1 hm
  obtain ⟨n0, b0, k0, s0, t0, a5, l5, c5, a6, l6, c6, E, rfl, ho, hfi⟩ := HALL.out e w1 hm
  have HFI := Lib.hid hfi
  obtain ⟨x0, x1, x2, x3, x4, x5, x6⟩ := ho.seven
  obtain ⟨e0, e1, e2, e3, e4, e5, e6, _, elt⟩ := ho.free8
  have HM1 := Lib.hid (store7m (.string n0) (.int .u8 b0) (.int .u8 k0) (.int .u32 s0) (.string t0) (.slice a5 l5 c5) (.slice a6 l6 c6) ho)
  clear hm ho hfi HALL HMD
  go_wp2_with fail
  obtain ⟨k1, k2⟩ := HM1.out _ rfl
  refine bodyPost_ret (v := .tuple #[.agg #[.string n0, .int .u8 b0, .int .u8 k0, .int .u32 s0, .string t0, .slice a5 l5 c5, .slice a6 l6 c6], .int .i64 E]) (res_sy_tmp Tryd.results13 _ _ w.heap.size _ _ _ _ _ _ _ _ rfl rfl k1) rfl (HFI.out _ k2)
set_option maxHeartbeats 4000000 in
set_option maxRecDepth 100000 in
theorem adata_3 (nm bs : ByteArray) (bi sz : Int) (LN : List Nt) (an : Option Addr) (cn : Nat) (w : World) (hs : syFits ⟨by' nm, bi, 3, sz, by' bs, [], LN⟩) (hN : NotesAt w (.slice an LN.length cn) LN) :
    Calls Tryd.prog 13 #[.string nm, .int .u8 bi, .int .u8 3, .int .u32 sz, .string bs, .slice an LN.length cn] w (MkPost w (datE ⟨by' nm, bi, 3, sz, by' bs, [], LN⟩) (datS ⟨by' nm, bi, 3, sz, by' bs, [], LN⟩)) := by
  have hk1 : symOk ⟨by' nm, bi, 3, sz, by' bs, [], LN⟩ = true → datE ⟨by' nm, bi, 3, sz, by' bs, [], LN⟩ = 0 ∧ datS ⟨by' nm, bi, 3, sz, by' bs, [], LN⟩ = ⟨by' nm, bi, 3, sz, by' bs, [], LN⟩ := fun h => by unfold datE datS; rw [if_pos ⟨by simp, h⟩, if_pos ⟨by simp, h⟩]; exact ⟨rfl, rfl⟩
  have hk2 : symOk ⟨by' nm, bi, 3, sz, by' bs, [], LN⟩ = false → datE ⟨by' nm, bi, 3, sz, by' bs, [], LN⟩ = 2 ∧ datS ⟨by' nm, bi, 3, sz, by' bs, [], LN⟩ = Sy.nought := fun h => by unfold datE datS; rw [if_neg (fun e => by rw [h] at e; exact absurd e.2 (by decide)), if_neg (fun e => by rw [h] at e; exact absurd e.2 (by decide))]; exact ⟨rfl, rfl⟩
  have HALL : Hid (∀ e w', MadP w w.heap.size ⟨by' nm, bi, 3, sz, by' bs, [], LN⟩ e w' → ∃ n0 b0 k0 s0 t0 a5 l5 c5 a6 l6 c6 E, e = .returned (.tuple #[.agg #[.string n0, .int .u8 b0, .int .u8 k0, .int .u32 s0, .string t0, .slice a5 l5 c5, .slice a6 l6 c6], .int .i64 E]) ∧ Blk w' w.heap.size 29 zS ∧ ∀ w2, w'.grownBy w2 (some w.heap.size) → MkPost w (datE ⟨by' nm, bi, 3, sz, by' bs, [], LN⟩) (datS ⟨by' nm, bi, 3, sz, by' bs, [], LN⟩) (.returned (.tuple #[.agg #[.string n0, .int .u8 b0, .int .u8 k0, .int .u32 s0, .string t0, .slice a5 l5 c5, .slice a6 l6 c6], .int .i64 E])) w2) := Lib.hid (by
    intro e w' ⟨hb, ho, hm⟩
    have hlow : ∀ w2, w'.grownBy w2 (some w.heap.size) → Below w.heap.size w w2 := fun w2 hg => hb.grown hg hb.size (fun k hk => by cases hk; exact Nat.le_refl _)
    rcases hm with ⟨hk, vr, vn, he, hR, hN⟩ | ⟨hk, he⟩
    · obtain ⟨a5, c5, hv5⟩ := row_slice hR
      obtain ⟨a6, c6, hv6⟩ := row_slice hN
      subst hv5 hv6
      refine ⟨_, _, _, _, _, _, _, _, _, _, _, _, he, ho, fun w2 hg => ?_⟩
      rw [(hk1 hk).1, (hk1 hk).2]
      exact ⟨_, rfl, ⟨_, _, rfl, slC_of_row (fun _ _ => rfl) (World.ownsRow.kept hR hg (.inr (row_block ho hR (by decide)))), slC_of_row (fun _ _ => rfl) (World.ownsRow.kept hN hg (.inr (row_block ho hN (by decide))))⟩, hlow w2 hg⟩
    · refine ⟨_, _, _, _, _, _, _, _, _, _, _, _, he, ho, fun w2 hg => ?_⟩
      rw [(hk2 hk).1, (hk2 hk).2]
      exact ⟨_, rfl, sy_zero w2, hlow w2 hg⟩)
  have HB0 := Lib.hid (below_new2 w (.cells #[.string ⟨#[]⟩, .int .u8 0, .int .u8 0, .int .u32 0, .string ⟨#[]⟩, .slice none 0 0, .slice none 0 0] 29) (.cells #[.string nm, .int .u8 bi, .int .u8 3, .int .u32 sz, .string bs, .slice none 0 0, .slice an LN.length cn, .map none] 65))
  have HX0 := Lib.hid ((Blk.new w 29 zS).alloc (.cells #[.string nm, .int .u8 bi, .int .u8 3, .int .u32 sz, .string bs, .slice none 0 0, .slice an LN.length cn, .map none] 65))
  have HM0 := Lib.hid (Blk.new2 w (.cells #[.string ⟨#[]⟩, .int .u8 0, .int .u8 0, .int .u32 0, .string ⟨#[]⟩, .slice none 0 0, .slice none 0 0] 29) 65 [.string nm, .int .u8 bi, .int .u8 3, .int .u32 sz, .string bs, .slice none 0 0, .slice an LN.length cn, .map none])
  have HMD := Lib.hid (made_any ⟨by' nm, bi, 3, sz, by' bs, [], LN⟩ nm bs bi 3 sz (.slice none 0 0) (.slice an LN.length cn) (.map none) [] LN w _ (w.heap.size + 1) w.heap.size HX0.out hs rfl HB0.out (Nat.le_succ _) HM0.out (World.ownsRow_nil _ _ _ _) hN)
  obtain ⟨PE, hPE⟩ : ∃ P, P = datE ⟨by' nm, bi, 3, sz, by' bs, [], LN⟩ := ⟨_, rfl⟩
  obtain ⟨PS, hPS⟩ : ∃ P, P = datS ⟨by' nm, bi, 3, sz, by' bs, [], LN⟩ := ⟨_, rfl⟩
  rw [← hPE, ← hPS] at HALL ⊢
  clear hk1 hk2 hs hN hPE hPS HB0 HM0 HX0
  go_enter Tryd.func13, Tryd.ntmps13
  go_wp2_with fail
  refine HMD.out.mono ?_
  rintro e w1 hm
  obtain ⟨n0, b0, k0, s0, t0, a5, l5, c5, a6, l6, c6, E, rfl, ho, hfi⟩ := HALL.out e w1 hm
  have HFI := Lib.hid hfi
  obtain ⟨x0, x1, x2, x3, x4, x5, x6⟩ := ho.seven
  obtain ⟨e0, e1, e2, e3, e4, e5, e6, _, elt⟩ := ho.free8
  have HM1 := Lib.hid (store7m (.string n0) (.int .u8 b0) (.int .u8 k0) (.int .u32 s0) (.string t0) (.slice a5 l5 c5) (.slice a6 l6 c6) ho)
  clear hm ho hfi HALL HMD
  go_wp2_with fail
  obtain ⟨k1, k2⟩ := HM1.out _ rfl
  refine bodyPost_ret (v := .tuple #[.agg #[.string n0, .int .u8 b0, .int .u8 k0, .int .u32 s0, .string t0, .slice a5 l5 c5, .slice a6 l6 c6], .int .i64 E]) (res_sy_tmp Tryd.results13 _ _ w.heap.size _ _ _ _ _ _ _ _ rfl rfl k1) rfl (HFI.out _ k2)
set_option maxHeartbeats 4000000 in
set_option maxRecDepth 100000 in
theorem adata_no (nm bs : ByteArray) (bi ki sz : Int) (vn : Value) (w : World) (h2 : (ki != 2) = true) (h3 : (ki != 3) = true) :
    Calls Tryd.prog 13 #[.string nm, .int .u8 bi, .int .u8 ki, .int .u32 sz, .string bs, vn] w fun e w' => e = .returned (.tuple #[.agg #[.string ⟨#[]⟩, .int .u8 0, .int .u8 0, .int .u32 0, .string ⟨#[]⟩, .slice none 0 0, .slice none 0 0], .int .i64 2]) ∧ Below w.heap.size w w' := by
  have HB0 := Lib.hid (below_new1 w (.cells #[.string ⟨#[]⟩, .int .u8 0, .int .u8 0, .int .u32 0, .string ⟨#[]⟩, .slice none 0 0, .slice none 0 0] 29))
  have HX0 := Lib.hid (Blk.new w 29 zS)
  go_enter Tryd.func13, Tryd.ntmps13
  go_wp2_with fail
  refine bodyPost_ret (v := .tuple #[.agg #[.string ⟨#[]⟩, .int .u8 0, .int .u8 0, .int .u32 0, .string ⟨#[]⟩, .slice none 0 0, .slice none 0 0], .int .i64 2]) (res_sy_tmp Tryd.results13 _ _ w.heap.size _ _ _ _ _ _ _ _ rfl rfl HX0.out) rfl ⟨rfl, HB0.out⟩
theorem adata_any (s : Sy) (vn : Value) (w : World) (hs : syFits s) (hr : s.rels = []) (hN : NotesAt w vn s.notes) :
    Calls Tryd.prog 13 #[.string (tx s.name), .int .u8 s.bind, .int .u8 s.kind, .int .u32 s.size, .string (tx s.bytes), vn] w (MkPost w (datE s) (datS s)) := by
  obtain ⟨nm, bi, ki, sz, bs, rl, nt⟩ := s
  simp only at hr hN ⊢
  subst hr
  obtain ⟨an, cn, hvn⟩ : ∃ an cn, vn = .slice an nt.length cn := by obtain ⟨a, c, h, _⟩ := id hN; exact ⟨a, c, h⟩
  subst hvn
  by_cases h2 : ki = 2
  · subst h2
    have h := adata_2 (tx nm) (tx bs) bi sz nt an cn w (by rw [by_tx, by_tx]; exact hs) hN
    rw [by_tx, by_tx] at h
    exact h
  · by_cases h3 : ki = 3
    · subst h3
      have h := adata_3 (tx nm) (tx bs) bi sz nt an cn w (by rw [by_tx, by_tx]; exact hs) hN
      rw [by_tx, by_tx] at h
      exact h
    · have e1 : datE ⟨nm, bi, ki, sz, bs, [], nt⟩ = 2 := by unfold datE; rw [if_neg (fun e => e.1.elim h2 h3)]
      have e2 : datS ⟨nm, bi, ki, sz, bs, [], nt⟩ = Sy.nought := by unfold datS; rw [if_neg (fun e => e.1.elim h2 h3)]
      rw [e1, e2]
      refine (adata_no (tx nm) (tx bs) bi ki sz _ w (by simpa using h2) (by simpa using h3)).mono ?_
      rintro e w' ⟨rfl, hb⟩
      exact ⟨_, rfl, sy_zero w', hb⟩
end Go.Proofs.YtlnnhgmkibjgmaaDoor
