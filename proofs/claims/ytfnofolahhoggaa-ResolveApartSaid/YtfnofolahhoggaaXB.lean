/- The statements' example, walked. (written by mk_xb.py) -/
import Derived.Test.YtfnofolahhoggaaXA
set_option linter.unusedVariables false
set_option linter.unusedSimpArgs false
namespace Go.Proofs.Ytfnofolahhoggaa
open Go Go.RowKit Go.Maps Oj Rv

theorem exSyms (T : List Sy) (W : World) (hT : ∀ s ∈ T, s.rels = [] ∧ s.notes = []) (hl : T.length ≤ maxLen) (cs : Array Value) (hc : cs = (T.flatMap fun s => syCells s (.slice none 0 0) (.slice none 0 0)).toArray) (n : Nat) (hn : n = T.length) (g : Nat) (hg : g = W.heap.size) :
    SymsAt (W.alloc (.cells cs 50)) (.slice (some ⟨g, 0, none⟩) n n) T := by
  subst hc hn hg
  exact lit_syms W T hT hl
theorem ex_no (T : List Sy) (h : ∀ s ∈ T, ∃ n b, s = exS n b) : ∀ s ∈ T, s.rels = [] ∧ s.notes = [] := fun s hs => by
  obtain ⟨n, b, rfl⟩ := h s hs
  exact ⟨rfl, rfl⟩
theorem exA_no : ∀ s ∈ exA.syms, s.rels = [] ∧ s.notes = [] := ex_no _ (by intro s hs; simp only [exA, List.mem_cons, List.not_mem_nil, or_false] at hs; rcases hs with rfl | rfl <;> exact ⟨_, _, rfl⟩)
theorem exB_no : ∀ s ∈ exB.syms, s.rels = [] ∧ s.notes = [] := ex_no _ (by intro s hs; simp only [exB, List.mem_cons, List.not_mem_nil, or_false] at hs; rcases hs with rfl | rfl <;> exact ⟨_, _, rfl⟩)
theorem exC_no : ∀ s ∈ exC.syms, s.rels = [] ∧ s.notes = [] := ex_no _ (by intro s hs; simp only [exC, List.mem_cons, List.not_mem_nil, or_false] at hs; subst hs; exact ⟨_, _, rfl⟩)
theorem ex_find (v : Value) (fr : Int) (n : UInt8) (x y : Nat) (e : Int) (h : fndL [exA, exB] fr [n] = ((x, y), e)) (W : World) (hA : ObsAt W v [exA, exB]) :
    Calls Try.prog 11 #[v, .int .i64 fr, .string ⟨#[n]⟩] W fun e' w' => e' = .returned (.tuple #[.agg #[.int .i64 (x : Int), .int .i64 (y : Int)], .int .i64 e]) ∧ Below W.heap.size W w' := by
  have h1 := vFind_any [exA, exB] v fr ⟨#[n]⟩ fits2 (show 1 ≤ 140737488355328 by decide) W hA
  rw [show by' ⟨#[n]⟩ = [n] from rfl, h] at h1
  exact h1
theorem ex_check (v : Value) (W : World) (hA : ObsAt W v [exA, exB, exC]) : Calls Try.prog 9 #[v] W fun e' w' => e' = .returned (.tuple #[.string ⟨#[102]⟩, .int .i64 120]) ∧ Below W.heap.size W w' := by
  have h1 := vcheck_any [exA, exB, exC] v fits3 W hA
  rw [ex_d] at h1
  exact h1
set_option maxHeartbeats 8000000 in
set_option maxRecDepth 100000 in
theorem valive_any (w : World) : Calls Try.prog 7 #[] w fun e w' => e = .returned (.bool true) ∧ Below w.heap.size w w' := by
  obtain ⟨iO, hiO, hzO, hsO, hbO⟩ := info_parts infoObjX
  have HO := Lib.hid (And.intro hiO (And.intro hzO (And.intro hsO hbO)))
  clear hiO hzO hsO hbO
  go_enter Try.func7, Try.ntmps7
  go_wp2_with fail
  refine (vsym_any 102 2 _).mono ?_; rintro e w1 ⟨rfl, q1⟩
  have HB1 := Lib.hid q1
  clear q1
  go_wp2_with fail
  refine (vsym_any 103 0 _).mono ?_; rintro e w2 ⟨rfl, q2⟩
  have HBA := Lib.hid (below_box (below_call HB1.out q2) (.cells #[.string ⟨#[102]⟩, .int .u8 2, .int .u8 2, .int .u32 4, .string ⟨#[]⟩, .slice none 0 0, .slice none 0 0, .string ⟨#[103]⟩, .int .u8 0, .int .u8 2, .int .u32 4, .string ⟨#[]⟩, .slice none 0 0, .slice none 0 0] 50))
  have HSA : Hid (SymsAt (w2.alloc (.cells #[.string ⟨#[102]⟩, .int .u8 2, .int .u8 2, .int .u32 4, .string ⟨#[]⟩, .slice none 0 0, .slice none 0 0, .string ⟨#[103]⟩, .int .u8 0, .int .u8 2, .int .u32 4, .string ⟨#[]⟩, .slice none 0 0, .slice none 0 0] 50)) (.slice (some ⟨w2.heap.size, 0, none⟩) 2 2) exA.syms) := Lib.hid (exSyms exA.syms w2 exA_no (by decide) _ rfl 2 rfl _ rfl)
  clear q2 HB1
  go_wp2_with fail
  refine (vsym_any 102 1 _).mono ?_; rintro e w3 ⟨rfl, q3⟩
  have HB3 := Lib.hid (below_call HBA.out q3)
  have HS3 := Lib.hid (HSA.out.below q3)
  clear q3 HBA HSA
  go_wp2_with fail
  refine (vsym_any 103 1 _).mono ?_; rintro e w4 ⟨rfl, q4⟩
  have HB4 := Lib.hid (below_box (below_call HB3.out q4) (.cells #[.string ⟨#[102]⟩, .int .u8 1, .int .u8 2, .int .u32 4, .string ⟨#[]⟩, .slice none 0 0, .slice none 0 0, .string ⟨#[103]⟩, .int .u8 1, .int .u8 2, .int .u32 4, .string ⟨#[]⟩, .slice none 0 0, .slice none 0 0] 50))
  have HS4 := Lib.hid ((HS3.out.below q4).below (below_new1 w4 (.cells #[.string ⟨#[102]⟩, .int .u8 1, .int .u8 2, .int .u32 4, .string ⟨#[]⟩, .slice none 0 0, .slice none 0 0, .string ⟨#[103]⟩, .int .u8 1, .int .u8 2, .int .u32 4, .string ⟨#[]⟩, .slice none 0 0, .slice none 0 0] 50)))
  have HT4 : Hid (SymsAt (w4.alloc (.cells #[.string ⟨#[102]⟩, .int .u8 1, .int .u8 2, .int .u32 4, .string ⟨#[]⟩, .slice none 0 0, .slice none 0 0, .string ⟨#[103]⟩, .int .u8 1, .int .u8 2, .int .u32 4, .string ⟨#[]⟩, .slice none 0 0, .slice none 0 0] 50)) (.slice (some ⟨w4.heap.size, 0, none⟩) 2 2) exB.syms) := Lib.hid (exSyms exB.syms w4 exB_no (by decide) _ rfl 2 rfl _ rfl)
  clear q4 HB3 HS3
  go_upto_region 2 with (fail)
  refine wp_nameA ?_; intro w5 hw5
  obtain ⟨ws, hws⟩ : ∃ ws, ws = w4.alloc (.cells #[.string ⟨#[102]⟩, .int .u8 1, .int .u8 2, .int .u32 4, .string ⟨#[]⟩, .slice none 0 0, .slice none 0 0, .string ⟨#[103]⟩, .int .u8 1, .int .u8 2, .int .u32 4, .string ⟨#[]⟩, .slice none 0 0, .slice none 0 0] 50) := ⟨_, rfl⟩
  rw [← hws] at HB4 HS4 HT4
  have hsz : w4.heap.size + 1 = ws.heap.size := by rw [hws]; simp
  have hR := lit_ob2 ws exA exB (.slice (some ⟨w2.heap.size, 0, none⟩) 2 2) (.slice (some ⟨w4.heap.size, 0, none⟩) 2 2)
  have hbw := below_new1 ws (.cells #[.string (tx exA.name), .slice (some ⟨w2.heap.size, 0, none⟩) 2 2, .string (tx exB.name), .slice (some ⟨w4.heap.size, 0, none⟩) 2 2] 43)
  have he : w5 = ws.alloc (.cells #[.string (tx exA.name), .slice (some ⟨w2.heap.size, 0, none⟩) 2 2, .string (tx exB.name), .slice (some ⟨w4.heap.size, 0, none⟩) 2 2] 43) := by rw [hw5, hws]; rfl
  rw [← he] at hR hbw
  have HR5 := Lib.hid hR
  have HW5 := Lib.hid hbw
  obtain ⟨g, hg⟩ : ∃ g, g = ws.heap.size := ⟨_, rfl⟩
  rw [← hg] at HR5
  rw [hsz, ← hg]
  have HG := Lib.hid hg
  clear hR hbw hw5 hws he hsz hg
  have HL : Hid (∀ W, Below w5.heap.size w5 W → ObsAt W (.slice (some ⟨g, 0, none⟩) 2 2) [exA, exB]) := Lib.hid (fun W hW => (obs_of_row2 HR5.out (HS4.out.below HW5.out) (HT4.out.below HW5.out)).below hW)
  have HB5 := Lib.hid (below_call HB4.out HW5.out)
  have HQ5 := Lib.hid (Below.refl w5.heap.size w5)
  go_wp2_with fail
  refine (show Calls Try.prog 11 #[.slice (some ⟨g, 0, none⟩) 2 2, .int .i64 0, .string ⟨#[102]⟩] w5 (fun e' w' => e' = .returned (.tuple #[.agg #[.int .i64 1, .int .i64 0], .int .i64 0]) ∧ Below w5.heap.size w5 w') from ex_find _ 0 102 1 0 0 ex_f0 w5 (HL.out _ HQ5.out)).mono ?_; rintro e z5 ⟨rfl, q⟩
  have HQ6' := Lib.hid (below_box (below_call HQ5.out q) (.cells #[.int .i64 1, .int .i64 0] 24))
  have HB6' := Lib.hid (below_box (below_call HB5.out q) (.cells #[.int .i64 1, .int .i64 0] 24))
  have HP5' := Lib.hid (Blk.new z5 24 [.int .i64 1, .int .i64 0])
  go_upto_region 3 with (fail)
  refine wp_nameA ?_; intro w6 hw
  rw [← hw] at HQ6' HB6' HP5'
  clear q hw HQ5 HB5 
  have HQ6 := Lib.hid HQ6'.out
  have HB6 := Lib.hid HB6'.out
  have HP5 := Lib.hid HP5'.out
  clear HQ6' HB6' HP5'
  go_wp2_with fail
  refine (show Calls Try.prog 11 #[.slice (some ⟨g, 0, none⟩) 2 2, .int .i64 0, .string ⟨#[103]⟩] w6 (fun e' w' => e' = .returned (.tuple #[.agg #[.int .i64 0, .int .i64 1], .int .i64 0]) ∧ Below w6.heap.size w6 w') from ex_find _ 0 103 0 1 0 ex_g0 w6 (HL.out _ HQ6.out)).mono ?_; rintro e z6 ⟨rfl, q⟩
  have HQ7' := Lib.hid (below_box (below_call HQ6.out q) (.cells #[.int .i64 0, .int .i64 1] 24))
  have HB7' := Lib.hid (below_box (below_call HB6.out q) (.cells #[.int .i64 0, .int .i64 1] 24))
  have HP5' := Lib.hid ((HP5.out.call q).alloc (.cells #[.int .i64 0, .int .i64 1] 24))
  have HP6' := Lib.hid (Blk.new z6 24 [.int .i64 0, .int .i64 1])
  go_upto_region 4 with (fail)
  refine wp_nameA ?_; intro w7 hw
  rw [← hw] at HQ7' HB7' HP5' HP6'
  clear q hw HQ6 HB6 HP5
  have HQ7 := Lib.hid HQ7'.out
  have HB7 := Lib.hid HB7'.out
  have HP5 := Lib.hid HP5'.out
  have HP6 := Lib.hid HP6'.out
  clear HQ7' HB7' HP5' HP6'
  go_wp2_with fail
  refine (show Calls Try.prog 11 #[.slice (some ⟨g, 0, none⟩) 2 2, .int .i64 1, .string ⟨#[103]⟩] w7 (fun e' w' => e' = .returned (.tuple #[.agg #[.int .i64 1, .int .i64 1], .int .i64 0]) ∧ Below w7.heap.size w7 w') from ex_find _ 1 103 1 1 0 ex_g1 w7 (HL.out _ HQ7.out)).mono ?_; rintro e z7 ⟨rfl, q⟩
  have HQ8' := Lib.hid (below_box (below_call HQ7.out q) (.cells #[.int .i64 1, .int .i64 1] 24))
  have HB8' := Lib.hid (below_box (below_call HB7.out q) (.cells #[.int .i64 1, .int .i64 1] 24))
  have HP5' := Lib.hid ((HP5.out.call q).alloc (.cells #[.int .i64 1, .int .i64 1] 24))
  have HP6' := Lib.hid ((HP6.out.call q).alloc (.cells #[.int .i64 1, .int .i64 1] 24))
  have HP7' := Lib.hid (Blk.new z7 24 [.int .i64 1, .int .i64 1])
  go_upto_region 5 with (fail)
  refine wp_nameA ?_; intro w8 hw
  rw [← hw] at HQ8' HB8' HP5' HP6' HP7'
  clear q hw HQ7 HB7 HP5 HP6
  have HQ8 := Lib.hid HQ8'.out
  have HB8 := Lib.hid HB8'.out
  have HP5 := Lib.hid HP5'.out
  have HP6 := Lib.hid HP6'.out
  have HP7 := Lib.hid HP7'.out
  clear HQ8' HB8' HP5' HP6' HP7'
  go_wp2_with fail
  refine (show Calls Try.prog 11 #[.slice (some ⟨g, 0, none⟩) 2 2, .int .i64 (-1), .string ⟨#[120]⟩] w8 (fun e' w' => e' = .returned (.tuple #[.agg #[.int .i64 0, .int .i64 0], .int .i64 121]) ∧ Below w8.heap.size w8 w') from ex_find _ (-1) 120 0 0 121 ex_x w8 (HL.out _ HQ8.out)).mono ?_; rintro e z8 ⟨rfl, q⟩
  have HQ9' := Lib.hid (below_box (below_call HQ8.out q) (.cells #[.int .i64 0, .int .i64 0] 24))
  have HB9' := Lib.hid (below_box (below_call HB8.out q) (.cells #[.int .i64 0, .int .i64 0] 24))
  have HP5' := Lib.hid ((HP5.out.call q).alloc (.cells #[.int .i64 0, .int .i64 0] 24))
  have HP6' := Lib.hid ((HP6.out.call q).alloc (.cells #[.int .i64 0, .int .i64 0] 24))
  have HP7' := Lib.hid ((HP7.out.call q).alloc (.cells #[.int .i64 0, .int .i64 0] 24))
  have HP8' := Lib.hid (Blk.new z8 24 [.int .i64 0, .int .i64 0])
  go_upto_region 6 with (fail)
  refine wp_nameA ?_; intro w9 hw
  rw [← hw] at HQ9' HB9' HP5' HP6' HP7' HP8'
  clear q hw HQ8 HB8 HP5 HP6 HP7
  have HQ9 := Lib.hid HQ9'.out
  have HB9 := Lib.hid HB9'.out
  have HP5 := Lib.hid HP5'.out
  have HP6 := Lib.hid HP6'.out
  have HP7 := Lib.hid HP7'.out
  have HP8 := Lib.hid HP8'.out
  clear HQ9' HB9' HP5' HP6' HP7' HP8'
  go_wp2_with fail
  refine (vsym_any 102 1 _).mono ?_; rintro e w10 ⟨rfl, q⟩
  have HQT : Hid (w5.heap.size ≤ w10.heap.size) := Lib.hid (below_call HQ9.out q).size
  have HQA := Lib.hid (below_box (below_call HQ9.out q) (.cells #[.string ⟨#[102]⟩, .int .u8 1, .int .u8 2, .int .u32 4, .string ⟨#[]⟩, .slice none 0 0, .slice none 0 0] 50))
  have HBA := Lib.hid (below_box (below_call HB9.out q) (.cells #[.string ⟨#[102]⟩, .int .u8 1, .int .u8 2, .int .u32 4, .string ⟨#[]⟩, .slice none 0 0, .slice none 0 0] 50))
  have HCA : Hid ((w10.alloc (.cells #[.string ⟨#[102]⟩, .int .u8 1, .int .u8 2, .int .u32 4, .string ⟨#[]⟩, .slice none 0 0, .slice none 0 0] 50)).ownsRow w10.heap.size 50 7 (.slice (some ⟨w10.heap.size, 0, none⟩) 1 1) 1 (flat (fun j => syCells (exC.syms.getD j Sy.nought) (.slice none 0 0) (.slice none 0 0)) 1)) := Lib.hid (lit_row w10 exC.syms (by decide))
  have HRA := Lib.hid (row_below (row_below HR5.out (below_call HQ9.out q)) (below_new1 w10 (.cells #[.string ⟨#[102]⟩, .int .u8 1, .int .u8 2, .int .u32 4, .string ⟨#[]⟩, .slice none 0 0, .slice none 0 0] 50)))
  have HPA5 := Lib.hid ((HP5.out.call q).alloc (.cells #[.string ⟨#[102]⟩, .int .u8 1, .int .u8 2, .int .u32 4, .string ⟨#[]⟩, .slice none 0 0, .slice none 0 0] 50))
  have HPA6 := Lib.hid ((HP6.out.call q).alloc (.cells #[.string ⟨#[102]⟩, .int .u8 1, .int .u8 2, .int .u32 4, .string ⟨#[]⟩, .slice none 0 0, .slice none 0 0] 50))
  have HPA7 := Lib.hid ((HP7.out.call q).alloc (.cells #[.string ⟨#[102]⟩, .int .u8 1, .int .u8 2, .int .u32 4, .string ⟨#[]⟩, .slice none 0 0, .slice none 0 0] 50))
  have HPA8 := Lib.hid ((HP8.out.call q).alloc (.cells #[.string ⟨#[102]⟩, .int .u8 1, .int .u8 2, .int .u32 4, .string ⟨#[]⟩, .slice none 0 0, .slice none 0 0] 50))
  clear q HQ9 HB9 HP5 HP6 HP7 HP8
  obtain ⟨wa, hwa⟩ : ∃ wa, wa = w10.alloc (.cells #[.string ⟨#[102]⟩, .int .u8 1, .int .u8 2, .int .u32 4, .string ⟨#[]⟩, .slice none 0 0, .slice none 0 0] 50) := ⟨_, rfl⟩
  rw [← hwa] at HQA HBA HCA HRA HPA5 HPA6 HPA7 HPA8
  have hsz : wa.heap.size = w10.heap.size + 1 := by rw [hwa]; simp
  have HSZ := Lib.hid hsz
  have hone : Hid (∀ u ∈ [Value.string ⟨#[99]⟩, .slice (some ⟨w10.heap.size, 0, none⟩) 1 1], u.oneCell' = true) := Lib.hid (by intro u hu; simp only [List.mem_cons, List.not_mem_nil, or_false] at hu; rcases hu with rfl | rfl <;> rfl)
  have hBs : Hid (g ≤ (wa.alloc (.cells #[.string ⟨#[99]⟩, .slice (some ⟨w10.heap.size, 0, none⟩) 1 1] 43)).heap.size) := Lib.hid (by have h1 := HQA.out.size; have h2 := HW5.out.size; have h3 := HG.out; simp; omega)
  have HWA := Lib.hid hwa
  clear hwa hsz
  go_wp2_with (at_builtin; rw [← HWA.out]; refine wpList_append_own _ rfl _ _ _ rfl g 43 iO _ 2 40 Try.underlying22 HO.out.1 HO.out.2.1 HO.out.2.2.1 HO.out.2.2.2 rfl (by decide) _ 2 _ rfl (HRA.out.alloc _) ⟨w10.heap.size + 1, 0, none⟩ 1 1 [.string ⟨#[99]⟩, .slice (some ⟨w10.heap.size, 0, none⟩) 1 1] rfl rfl (by rw [← HSZ.out]; exact new_obX _ _ _) hone.out (by decide) (by decide) hBs.out ?_; intro v5 w11 h6 h7 _)
  replace h7 : World.grownBy (wa.alloc (.cells #[.string ⟨#[99]⟩, .slice (some ⟨w10.heap.size, 0, none⟩) 1 1] 43)) w11 (some g) := h7
  have HOb : Hid (ObsAt w11 v5 [exA, exB, exC]) := Lib.hid (by
    have hq := below_box (below_call HW5.out HQA.out) (.cells #[.string ⟨#[99]⟩, .slice (some ⟨w10.heap.size, 0, none⟩) 1 1] 43)
    have hq2 : Below ws.heap.size ws w11 := hq.grown h7 hq.size (fun k hk => by cases hk; exact Nat.le_of_eq HG.out.symm)
    refine obs_of_row3 h6 (HS4.out.below hq2) (HT4.out.below hq2) (syms_of_row exC_no (B := w10.heap.size) ?_)
    refine World.ownsRow.kept (row_below HCA.out (below_new1 wa _)) h7 (.inr ?_)
    intro hk
    have hk : w10.heap.size = g := by simpa [Value.ownBlock] using hk
    have h1 := own_ltX HRA.out (show (Value.slice (some ⟨g, 0, none⟩) 2 2).ownBlock = some g from rfl)
    have h2 := HR5.out
    have h3 := own_ltX h2 (show (Value.slice (some ⟨g, 0, none⟩) 2 2).ownBlock = some g from rfl)
    have h4 := HQT.out
    omega)
  have HB11 : Hid (Below w.heap.size w w11) := Lib.hid (by
    have hb := below_box HBA.out (.cells #[.string ⟨#[99]⟩, .slice (some ⟨w10.heap.size, 0, none⟩) 1 1] 43)
    exact hb.grown h7 hb.size (fun k hk => by cases hk; show w.heap.size ≤ g; have h1 := HB4.out.size; have h2 := HG.out; omega))
  have HPX5 := Lib.hid ((HPA5.out.alloc (.cells #[.string ⟨#[99]⟩, .slice (some ⟨w10.heap.size, 0, none⟩) 1 1] 43)).grown h7 (row_block (HPA5.out.alloc (.cells #[.string ⟨#[99]⟩, .slice (some ⟨w10.heap.size, 0, none⟩) 1 1] 43)) (HRA.out.alloc _) (by decide)).symm)
  have HPX6 := Lib.hid ((HPA6.out.alloc (.cells #[.string ⟨#[99]⟩, .slice (some ⟨w10.heap.size, 0, none⟩) 1 1] 43)).grown h7 (row_block (HPA6.out.alloc (.cells #[.string ⟨#[99]⟩, .slice (some ⟨w10.heap.size, 0, none⟩) 1 1] 43)) (HRA.out.alloc _) (by decide)).symm)
  have HPX7 := Lib.hid ((HPA7.out.alloc (.cells #[.string ⟨#[99]⟩, .slice (some ⟨w10.heap.size, 0, none⟩) 1 1] 43)).grown h7 (row_block (HPA7.out.alloc (.cells #[.string ⟨#[99]⟩, .slice (some ⟨w10.heap.size, 0, none⟩) 1 1] 43)) (HRA.out.alloc _) (by decide)).symm)
  have HPX8 := Lib.hid ((HPA8.out.alloc (.cells #[.string ⟨#[99]⟩, .slice (some ⟨w10.heap.size, 0, none⟩) 1 1] 43)).grown h7 (row_block (HPA8.out.alloc (.cells #[.string ⟨#[99]⟩, .slice (some ⟨w10.heap.size, 0, none⟩) 1 1] 43)) (HRA.out.alloc _) (by decide)).symm)
  clear h6 h7 HCA HBA HQA HPA5 HPA6 HPA7 HPA8
  refine (ex_check v5 w11 HOb.out).mono ?_; rintro e w12 ⟨rfl, q⟩
  have HB12 := Lib.hid (below_call HB11.out q)
  have HPY5 := Lib.hid (HPX5.out.call q)
  have HPY6 := Lib.hid (HPX6.out.call q)
  have HPY7 := Lib.hid (HPX7.out.call q)
  have HPY8 := Lib.hid (HPX8.out.call q)
  clear q
  obtain ⟨p5, r5, -, -, hl5⟩ := HPY5.out.st2
  obtain ⟨p6, r6, -, -, hl6⟩ := HPY6.out.st2
  obtain ⟨p7, r7, -, -, hl7⟩ := HPY7.out.st2
  obtain ⟨p8, r8, -, -, hl8⟩ := HPY8.out.st2
  go_wp2_with fail
  go_ret
  exact ⟨rfl, HB12.out⟩
end Go.Proofs.Ytfnofolahhoggaa
