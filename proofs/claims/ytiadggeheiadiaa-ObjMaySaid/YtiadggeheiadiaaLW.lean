/- alive, of the statements, walked. (written by mk_lv.py) -/
import Derived.Test.YtiadggeheiadiaaLV
import Derived.Test.YtiadggeheiadiaaRP
set_option linter.unusedVariables false
set_option linter.unusedSimpArgs false
namespace Go.Proofs.Ytiadggeheiadiaa
open Go Go.RowKit Oj

theorem sym4 (w : World) (B : Nat) (W : World) (a : Option Addr) (c : Nat) (h : OwnR w B (.slice a 1 c) [mainR 4]) (hb : Below w.heap.size w W) : Calls Try.prog 13 #[.agg #[.string ⟨#[109, 97, 105, 110]⟩, .int .u8 1, .int .u8 1, .int .u32 8, .string ⟨#[40, 0, 0, 0, 0, 0, 0, 0]⟩, .slice a 1 c, .slice none 0 0]] W fun e w' => e = .returned (.int .i64 0) ∧ Below W.heap.size W w' := by
  have := osym_any _ _ fits4 W (main_sym rfl h hb)
  rw [ok4] at this
  exact this
theorem sym5 (w : World) (B : Nat) (W : World) (a : Option Addr) (c : Nat) (h : OwnR w B (.slice a 1 c) [mainR 5]) (hb : Below w.heap.size w W) : Calls Try.prog 13 #[.agg #[.string ⟨#[109, 97, 105, 110]⟩, .int .u8 1, .int .u8 1, .int .u32 8, .string ⟨#[40, 0, 0, 0, 0, 0, 0, 0]⟩, .slice a 1 c, .slice none 0 0]] W fun e w' => e = .returned (.int .i64 2) ∧ Below W.heap.size W w' := by
  have := osym_any _ _ fits5 W (main_sym rfl h hb)
  rw [ok5] at this
  exact this
theorem sym2 (w : World) (B : Nat) (W : World) (a : Option Addr) (c : Nat) (h : OwnR w B (.slice a 2 c) [mainR 4, rHalf]) (hb : Below w.heap.size w W) : Calls Try.prog 13 #[.agg #[.string ⟨#[109, 97, 105, 110]⟩, .int .u8 1, .int .u8 1, .int .u32 8, .string ⟨#[40, 0, 0, 0, 0, 0, 0, 0]⟩, .slice a 2 c, .slice none 0 0]] W fun e w' => e = .returned (.int .i64 2) ∧ Below W.heap.size W w' := by
  have := osym_any _ _ fits2 W (main_sym rfl h hb)
  rw [ok2] at this
  exact this
/-- The object that alive makes. -/
structure Ali (w0 w : World) (g1 g2 g3 : Nat) (a3 : Option Addr) (c3 : Nat) (a5 : Option Addr) (c5 : Nat) : Prop where
  low : Below w0.heap.size w0 w
  two : Blk w g1 40 [.string ⟨#[109, 97, 105, 110]⟩, .int .u8 1, .int .u8 1, .int .u32 8, .string ⟨#[40, 0, 0, 0, 0, 0, 0, 0]⟩, .slice a3 2 c3, .slice none 0 0]
  obj : Blk w g2 24 [.string ⟨#[111]⟩, .slice (some ⟨g3, 0, none⟩) 1 1]
  sym : Blk w g3 40 [.string ⟨#[109, 97, 105, 110]⟩, .int .u8 1, .int .u8 1, .int .u32 8, .string ⟨#[40, 0, 0, 0, 0, 0, 0, 0]⟩, .slice a5 1 c5, .slice none 0 0]
  r3 : OwnR w w0.heap.size (.slice a3 2 c3) [mainR 4, rHalf]
  r5 : OwnR w w0.heap.size (.slice a5 1 c5) [mainR 4]
section
variable {w0 w w' : World} {g1 g2 g3 : Nat} {a3 a5 : Option Addr} {c3 c5 : Nat}
theorem Ali.below (h : Ali w0 w g1 g2 g3 a3 c3 a5 c5) (hb : Below w.heap.size w w') : Ali w0 w' g1 g2 g3 a3 c3 a5 c5 :=
  ⟨below_call h.low hb, h.two.call hb, h.obj.call hb, h.sym.call hb, row_below h.r3 hb, row_below h.r5 hb⟩
theorem Ali.ob (h : Ali w0 w g1 g2 g3 a3 c3 a5 c5) : ObAt w (.agg #[.string ⟨#[111]⟩, .slice (some ⟨g3, 0, none⟩) 1 1]) oMain := by
  refine ⟨_, rfl, fun _ => .slice a5 1 c5, fun _ => .slice none 0 0, ⟨_, _, rfl, fun _ => ⟨g3, 0, rfl, h.sym.lt, fun j hj i u hu => ?_⟩⟩, fun j hj => ?_⟩
  · obtain rfl : j = 0 := by simp [oMain] at hj; exact hj
    rw [show (0 + 0 * 7 + i) = i by omega, h.sym.cell i]
    exact hu
  · obtain rfl : j = 0 := by simp [oMain] at hj; exact hj
    exact ⟨slC_of_row (fun _ _ => rfl) h.r5, ⟨none, 0, rfl, fun h => absurd h (Nat.lt_irrefl 0)⟩⟩
theorem Ali.find (h : Ali w0 w g1 g2 g3 a3 c3 a5 c5) : Calls Try.prog 15 #[.agg #[.string ⟨#[111]⟩, .slice (some ⟨g3, 0, none⟩) 1 1], .string ⟨#[109, 97, 105, 110]⟩] w fun e w' => e = .returned (.tuple #[.int .i64 0, .bool true]) ∧ Below w.heap.size w w' := by
  have := oFind_any _ _ fitsO ⟨#[109, 97, 105, 110]⟩ w h.ob
  rw [show by' ⟨#[109, 97, 105, 110]⟩ = [109, 97, 105, 110] from rfl, findM] at this
  exact this
theorem Ali.findx (h : Ali w0 w g1 g2 g3 a3 c3 a5 c5) : Calls Try.prog 15 #[.agg #[.string ⟨#[111]⟩, .slice (some ⟨g3, 0, none⟩) 1 1], .string ⟨#[120]⟩] w fun e w' => e = .returned (.tuple #[.int .i64 0, .bool false]) ∧ Below w.heap.size w w' := by
  have := oFind_any _ _ fitsO ⟨#[120]⟩ w h.ob
  rw [show by' ⟨#[120]⟩ = [120] from rfl, findX] at this
  exact this
theorem Ali.check (h : Ali w0 w g1 g2 g3 a3 c3 a5 c5) : Calls Try.prog 9 #[.agg #[.string ⟨#[111]⟩, .slice (some ⟨g3, 0, none⟩) 1 1]] w fun e w' => e = .returned (.int .i64 0) ∧ Below w.heap.size w w' := by
  have := ocheck_any _ _ fitsO w h.ob
  rw [okO] at this
  exact this
/-- Two of it side by side, and their names. -/
theorem Ali.names (h : Ali w0 w g1 g2 g3 a3 c3 a5 c5) : Calls Try.prog 19 #[.slice (some ⟨w.heap.size, 0, none⟩) 2 2] (w.alloc (.cells #[.string ⟨#[111]⟩, .slice (some ⟨g3, 0, none⟩) 1 1, .string ⟨#[111]⟩, .slice (some ⟨g3, 0, none⟩) 1 1] 24)) fun e w' => ∃ v, e = .returned v ∧ SlAt w' v [[109, 97, 105, 110]] ∧ Below w.heap.size w w' := by
  have hb := below_new1 w (.cells #[.string ⟨#[111]⟩, .slice (some ⟨g3, 0, none⟩) 1 1, .string ⟨#[111]⟩, .slice (some ⟨g3, 0, none⟩) 1 1] 24)
  have hB := Blk.new w 24 [.string ⟨#[111]⟩, .slice (some ⟨g3, 0, none⟩) 1 1, .string ⟨#[111]⟩, .slice (some ⟨g3, 0, none⟩) 1 1]
  have hS : SymsAt (w.alloc (.cells #[.string ⟨#[111]⟩, .slice (some ⟨g3, 0, none⟩) 1 1, .string ⟨#[111]⟩, .slice (some ⟨g3, 0, none⟩) 1 1] 24)) (.slice (some ⟨g3, 0, none⟩) 1 1) oMain.syms := by
    obtain ⟨vs, h1, h2⟩ := (h.below hb).ob
    injection h1 with h1
    have h3 := congrArg (fun a : Array Value => a.toList) h1
    simp at h3
    rw [← h3.2] at h2
    exact h2
  have hO : ObsAt (w.alloc (.cells #[.string ⟨#[111]⟩, .slice (some ⟨g3, 0, none⟩) 1 1, .string ⟨#[111]⟩, .slice (some ⟨g3, 0, none⟩) 1 1] 24)) (.slice (some ⟨w.heap.size, 0, none⟩) 2 2) [oMain, oMain] := by
    refine ⟨fun _ => .slice (some ⟨g3, 0, none⟩) 1 1, ⟨_, _, rfl, fun _ => ⟨w.heap.size, 0, rfl, hB.lt, fun j hj i u hu => ?_⟩⟩, fun j hj => ?_⟩
    · have hi : i < 2 := (List.getElem?_eq_some_iff.1 hu).1
      have hj2 : j = 0 ∨ j = 1 := by simp at hj; omega
      rw [hB.cell]
      rcases hj2 with rfl | rfl
      · rw [show (0 + 0 * 2 + i) = i by omega]
        rcases (show i = 0 ∨ i = 1 by omega) with rfl | rfl <;> exact hu
      · rw [show (0 + 1 * 2 + i) = 2 + i by omega]
        rcases (show i = 0 ∨ i = 1 by omega) with rfl | rfl <;> exact hu
    · have hj2 : j = 0 ∨ j = 1 := by simp at hj; omega
      rcases hj2 with rfl | rfl <;> exact hS
  refine (onames_any _ _ fitsOO (by decide) _ hO).mono ?_
  rintro e w' ⟨v, rfl, h1, h2⟩
  rw [namesM] at h1
  exact ⟨v, rfl, h1.slAt, below_call hb h2⟩
end
theorem note3 (W : World) : Calls Try.prog 10 #[.agg #[.int .u8 3, .int .u32 0, .int .u32 0]] W fun e w' => e = .returned (.int .i64 2) ∧ Below W.heap.size W w' := by
  have := onote_any ⟨3, 0, 0⟩ ⟨by decide, by decide, by decide⟩ W
  rw [noteM] at this
  exact this
theorem same_main {w : World} {v : Value} (h : SlAt w v [[109, 97, 105, 110]]) : Calls Try.prog 18 #[v, .slice (some ⟨w.heap.size, 0, none⟩) 1 1] (w.alloc (.cells #[.string ⟨#[109, 97, 105, 110]⟩] 9)) fun e w' => e = .returned (.bool true) ∧ Below w.heap.size w w' := by
  have hb := below_new1 w (.cells #[.string ⟨#[109, 97, 105, 110]⟩] 9)
  have hB := Blk.new w 9 [.string ⟨#[109, 97, 105, 110]⟩]
  have h2 : SlAt (w.alloc (.cells #[.string ⟨#[109, 97, 105, 110]⟩] 9)) (.slice (some ⟨w.heap.size, 0, none⟩) 1 1) [[109, 97, 105, 110]] := by
    refine ⟨_, _, rfl, fun _ => ⟨w.heap.size, 0, rfl, hB.lt, fun j hj => ?_⟩⟩
    obtain rfl : j = 0 := by simp at hj; exact hj
    exact hB.cell 0
  refine (rsame_any _ _ _ _ _ (h.below hb) h2 (by decide)).mono ?_
  rintro e w' ⟨rfl, n, rfl⟩
  exact ⟨rfl, below_call hb (below_drewN _ n)⟩

set_option maxHeartbeats 16000000 in
set_option maxRecDepth 100000 in
theorem oalive_any (w : World) : Calls Try.prog 7 #[] w fun e w' => e = .returned (.bool true) ∧ Below w.heap.size w w' := by
  obtain ⟨iR, hiR, hzR, hsR, hbR⟩ := info_parts infoRel
  have HI := Lib.hid (And.intro hiR (And.intro hzR (And.intro hsR hbR)))
  clear hiR hzR hsR hbR
  go_enter Try.func7, Try.ntmps7
  go_wp2_with fail
  refine (main_any 4 _).mono ?_; rintro e w1 ⟨a1, c1, rfl, h1, q1⟩
  have H1 := Lib.hid h1
  have Q1 := Lib.hid q1
  clear h1 q1
  obtain ⟨g1, hg1⟩ : ∃ g1, g1 = w1.heap.size := ⟨_, rfl⟩
  have HG1 := Lib.hid hg1
  have T2 := Lib.hid (Blk.new w1 40 [.string ⟨#[109, 97, 105, 110]⟩, .int .u8 1, .int .u8 1, .int .u32 8, .string ⟨#[40, 0, 0, 0, 0, 0, 0, 0]⟩, .slice a1 1 c1, .slice none 0 0])
  have Q2 := Lib.hid (below_box Q1.out (.cells #[.string ⟨#[109, 97, 105, 110]⟩, .int .u8 1, .int .u8 1, .int .u32 8, .string ⟨#[40, 0, 0, 0, 0, 0, 0, 0]⟩, .slice a1 1 c1, .slice none 0 0] 40))
  have R2 := Lib.hid (row_below H1.out (below_new1 w1 (.cells #[.string ⟨#[109, 97, 105, 110]⟩, .int .u8 1, .int .u8 1, .int .u32 8, .string ⟨#[40, 0, 0, 0, 0, 0, 0, 0]⟩, .slice a1 1 c1, .slice none 0 0] 40)))
  rw [← hg1] at T2
  go_upto_region 2 with (fail)
  rw [← hg1]
  clear hg1
  obtain ⟨w2, hw2⟩ : ∃ w2, w2 = w1.alloc (.cells #[.string ⟨#[109, 97, 105, 110]⟩, .int .u8 1, .int .u8 1, .int .u32 8, .string ⟨#[40, 0, 0, 0, 0, 0, 0, 0]⟩, .slice a1 1 c1, .slice none 0 0] 40) := ⟨_, rfl⟩
  rw [← hw2] at T2 Q2 R2 ⊢
  clear hw2
  have a5 : w2.cell? ⟨g1, 5, none⟩ = some (.slice a1 1 c1) := T2.out.cell 5
  have HBx : Hid (w.heap.size ≤ (w2.alloc (.cells #[.int .u32 6, .int .u8 2, .string ⟨#[109, 97, 105, 110]⟩, .int .u32 0] 54)).heap.size) := Lib.hid (below_box Q2.out _).size
  have HNw : Hid (∀ j u, [Value.int .u32 6, .int .u8 2, .string ⟨#[109, 97, 105, 110]⟩, .int .u32 0][j]? = some u → (w2.alloc (.cells #[.int .u32 6, .int .u8 2, .string ⟨#[109, 97, 105, 110]⟩, .int .u32 0] 54)).cell? ((⟨w2.heap.size, 0, none⟩ : Addr).add j) = some u) := Lib.hid (World.news_of_block (cs := #[.int .u32 6, .int .u8 2, .string ⟨#[109, 97, 105, 110]⟩, .int .u32 0]) (t := 54) (fr := (0, 0)) (heap_alloc_new w2 _))
  have HK : Hid (1 + 1 ≤ maxLen ∧ (1 + 1) * 32 ≤ 140737488355328) := Lib.hid (by unfold maxLen; omega)
  go_wp2_with (at_builtin; (refine wpList_append_own _ rfl _ _ 37 rfl w.heap.size 54 iR _ 4 32 Try.underlying37 HI.out.1 HI.out.2.1 HI.out.2.2.1 HI.out.2.2.2 rfl (by decide) (.slice a1 1 c1) 1 _ rfl (World.ownsRow.alloc R2.out _) ⟨w2.heap.size, 0, none⟩ 1 1 [.int .u32 6, .int .u8 2, .string ⟨#[109, 97, 105, 110]⟩, .int .u32 0] rfl rfl HNw.out (rl_one rHalf) HK.out.1 HK.out.2 HBx.out ?_))
  intro v3 w3 h6 h7 _
  have Q3 : Hid (Below w.heap.size w w3) := Lib.hid ((below_box Q2.out _).grown h7 (below_box Q2.out _).size (fun q hq => (World.ownsRow.lt R2.out q hq).1))
  have T3 : Hid (Blk w3 g1 40 _) := Lib.hid ((T2.out.alloc _).grown h7 (row_block (T2.out.alloc (.cells #[.int .u32 6, .int .u8 2, .string ⟨#[109, 97, 105, 110]⟩, .int .u32 0] 54)) (World.ownsRow.alloc R2.out (.cells #[.int .u32 6, .int .u8 2, .string ⟨#[109, 97, 105, 110]⟩, .int .u32 0] 54)) (by decide)).symm)
  have R3 : Hid (OwnR w3 w.heap.size v3 [mainR 4, rHalf]) := Lib.hid h6
  obtain ⟨a3, c3, hv3⟩ := row_slice h6
  clear h6 h7 a5 HBx HNw HK T2 Q2 R2
  subst hv3
  have a5 : w3.cell? ⟨g1, 5, none⟩ = some (.slice a1 1 c1) := T3.out.cell 5
  have f5 : w3.frozen? ⟨g1, 5, none⟩ = false := T3.out.frozen 5
  have hl1 : g1 < w3.heap.size := T3.out.lt
  go_upto_region 3 with (fail)
  have hgw : w.heap.size ≤ g1 := by rw [HG1.out]; exact Q1.out.size
  have Q4 := Lib.hid (below_set Q3.out hgw 5 (.slice a3 2 c3))
  have T4 : Hid (Blk (w3.setCell ⟨g1, 5, none⟩ (.slice a3 2 c3)) g1 40 [.string ⟨#[109, 97, 105, 110]⟩, .int .u8 1, .int .u8 1, .int .u32 8, .string ⟨#[40, 0, 0, 0, 0, 0, 0, 0]⟩, .slice a3 2 c3, .slice none 0 0]) := Lib.hid (T3.out.set_ 5 (.slice a3 2 c3))
  have R4 : Hid (OwnR (w3.setCell ⟨g1, 5, none⟩ (.slice a3 2 c3)) w.heap.size (.slice a3 2 c3) [mainR 4, rHalf]) := Lib.hid (World.ownsRow.kept R3.out (grown_set w3 g1 5 (.slice a3 2 c3)) (.inr (row_block T3.out R3.out (by decide))))
  obtain ⟨w4, hw4⟩ : ∃ w4, w4 = w3.setCell ⟨g1, 5, none⟩ (.slice a3 2 c3) := ⟨_, rfl⟩
  rw [← hw4] at Q4 T4 R4 ⊢
  clear hw4 a5 f5 hl1 hgw Q3 T3 R3
  go_wp2_with fail
  refine (main_any 4 _).mono ?_; rintro e w5 ⟨a5, c5, rfl, h5, q5⟩
  have A5 : Hid (Ali w ((w5.alloc (.cells #[.string ⟨#[109, 97, 105, 110]⟩, .int .u8 1, .int .u8 1, .int .u32 8, .string ⟨#[40, 0, 0, 0, 0, 0, 0, 0]⟩, .slice a5 1 c5, .slice none 0 0] 40)).alloc (.cells #[.string ⟨#[111]⟩, .slice (some ⟨w5.heap.size, 0, none⟩) 1 1] 24)) g1 (w5.heap.size + 1) w5.heap.size a3 c3 a5 c5) := Lib.hid ⟨below_box (below_box (below_call Q4.out q5) _) _, ((T4.out.call q5).alloc _).alloc _, Blk.new2 w5 _ 24 [.string ⟨#[111]⟩, .slice (some ⟨w5.heap.size, 0, none⟩) 1 1], (Blk.new w5 40 [.string ⟨#[109, 97, 105, 110]⟩, .int .u8 1, .int .u8 1, .int .u32 8, .string ⟨#[40, 0, 0, 0, 0, 0, 0, 0]⟩, .slice a5 1 c5, .slice none 0 0]).alloc _, row_below (row_below R4.out q5) (below_new2 w5 _ _), row_base (row_below h5 (below_new2 w5 _ _)) Q4.out.size⟩
  clear h5 q5 Q4 T4 R4
  go_upto_region 4 with (fail)
  obtain ⟨g3, hg3⟩ : ∃ g3, g3 = w5.heap.size := ⟨_, rfl⟩
  obtain ⟨g2, hg2⟩ : ∃ g2, g2 = w5.heap.size + 1 := ⟨_, rfl⟩
  rw [← hg2] at A5 ⊢
  rw [← hg3] at A5 ⊢
  obtain ⟨w7, hw7⟩ : ∃ w7, w7 = (w5.alloc (.cells #[.string ⟨#[109, 97, 105, 110]⟩, .int .u8 1, .int .u8 1, .int .u32 8, .string ⟨#[40, 0, 0, 0, 0, 0, 0, 0]⟩, .slice a5 1 c5, .slice none 0 0] 40)).alloc (.cells #[.string ⟨#[111]⟩, .slice (some ⟨g3, 0, none⟩) 1 1] 24) := ⟨_, rfl⟩
  rw [← hw7] at A5 ⊢
  clear hw7 hg2 hg3
  have b0 : w7.cell? ⟨g2, 0, none⟩ = some (.string ⟨#[111]⟩) := A5.out.obj.cell 0
  have b1 : w7.cell? ⟨g2, 1, none⟩ = some (.slice (some ⟨g3, 0, none⟩) 1 1) := A5.out.obj.cell 1
  go_wp2_with fail
  refine (A5.out.find).mono ?_; rintro e w8 ⟨rfl, q⟩
  have A8 := Lib.hid (A5.out.below q)
  clear q b0 b1
  have b0 : w8.cell? ⟨g2, 0, none⟩ = some (.string ⟨#[111]⟩) := A8.out.obj.cell 0
  have b1 : w8.cell? ⟨g2, 1, none⟩ = some (.slice (some ⟨g3, 0, none⟩) 1 1) := A8.out.obj.cell 1
  go_wp2_with fail
  refine (A8.out.findx).mono ?_; rintro e w9 ⟨rfl, q⟩
  have A9 := Lib.hid (A8.out.below q)
  clear q b0 b1
  go_wp2_with fail
  refine (main_any 4 _).mono ?_; rintro e w10 ⟨a10, c10, rfl, h, q⟩
  have H10 := Lib.hid h
  have A10 := Lib.hid (A9.out.below q)
  clear q h
  go_wp2_with fail
  refine (sym4 w10 _ w10 a10 c10 H10.out (Below.refl _ _)).mono ?_; rintro e w11 ⟨rfl, q⟩
  have A11 := Lib.hid (A10.out.below q)
  clear q
  go_wp2_with fail
  refine (main_any 5 _).mono ?_; rintro e w12 ⟨a12, c12, rfl, h, q⟩
  have H12 := Lib.hid h
  have A12 := Lib.hid (A11.out.below q)
  clear q h
  go_wp2_with fail
  refine (sym5 w12 _ w12 a12 c12 H12.out (Below.refl _ _)).mono ?_; rintro e w13 ⟨rfl, q⟩
  have A13 := Lib.hid (A12.out.below q)
  clear q
  obtain ⟨t0, t1, t2, t3, t4, t5, t6⟩ := A13.out.two.seven
  go_wp2_with fail
  refine (sym2 w13 _ w13 a3 c3 A13.out.r3 (Below.refl _ _)).mono ?_; rintro e w14 ⟨rfl, q⟩
  have A14 := Lib.hid (A13.out.below q)
  clear q t0 t1 t2 t3 t4 t5 t6
  have b0 : w14.cell? ⟨g2, 0, none⟩ = some (.string ⟨#[111]⟩) := A14.out.obj.cell 0
  have b1 : w14.cell? ⟨g2, 1, none⟩ = some (.slice (some ⟨g3, 0, none⟩) 1 1) := A14.out.obj.cell 1
  go_wp2_with fail
  refine (A14.out.check).mono ?_; rintro e w15 ⟨rfl, q⟩
  have A15 := Lib.hid (A14.out.below q)
  clear q b0 b1
  have b0 : w15.cell? ⟨g2, 0, none⟩ = some (.string ⟨#[111]⟩) := A15.out.obj.cell 0
  have b1 : w15.cell? ⟨g2, 1, none⟩ = some (.slice (some ⟨g3, 0, none⟩) 1 1) := A15.out.obj.cell 1
  go_wp2_with fail
  refine A15.out.names.mono ?_; rintro e w16 ⟨v16, rfl, h, q⟩
  have H16 := Lib.hid h
  have A16 := Lib.hid (A15.out.below q)
  clear q h b0 b1
  go_wp2_with fail
  refine (same_main H16.out).mono ?_; rintro e w17 ⟨rfl, q⟩
  have A17 := Lib.hid (A16.out.below q)
  clear q
  go_wp2_with fail
  refine (note3 _).mono ?_; rintro e w18 ⟨rfl, q⟩
  have A18 := Lib.hid (A17.out.below q)
  clear q
  go_wp2_with fail
  go_ret
  exact ⟨rfl, A18.out.low⟩
end Go.Proofs.Ytiadggeheiadiaa
