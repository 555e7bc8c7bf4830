/- The document's Copy: an object anew. -/
import Derived.Test.YtfnofolahhoggaaRC
import Derived.Test.YtfnofolahhoggaaOO
import Derived.Deep.AppendLies
set_option linter.unusedVariables false
set_option linter.unusedSimpArgs false
namespace Go.Proofs.Ytfnofolahhoggaa
open Go Go.RowKit Oj

theorem infoRel : (Try.prog.info? 54).map (fun i => (i.zero, i.size, i.bytes)) = some (some (.agg #[.int .u32 0, .int .u8 0, .string ⟨#[]⟩, .int .u32 0]), 4, 32) := by kernel_rfl
theorem infoNote : (Try.prog.info? 81).map (fun i => (i.zero, i.size, i.bytes)) = some (some (.agg #[.int .u8 0, .int .u32 0, .int .u32 0]), 3, 12) := by kernel_rfl
theorem infoSym : (Try.prog.info? 50).map (fun i => (i.zero, i.size, i.bytes)) = some (some (.agg #[.string ⟨#[]⟩, .int .u8 0, .int .u8 0, .int .u32 0, .string ⟨#[]⟩, .slice none 0 0, .slice none 0 0]), 7, 88) := by kernel_rfl
theorem rl_len (x : Rl) : (rlCells x).length = 4 := rfl
theorem nt_len (x : Nt) : (ntCells x).length = 3 := rfl
theorem sy_len (x : Sy) (a b : Value) : (syCells x a b).length = 7 := rfl
theorem rl_one (x : Rl) : ∀ u ∈ rlCells x, u.oneCell' = true := by intro u hu; simp only [rlCells, List.mem_cons, List.not_mem_nil, or_false] at hu; rcases hu with rfl | rfl | rfl | rfl <;> rfl
theorem nt_one (x : Nt) : ∀ u ∈ ntCells x, u.oneCell' = true := by intro u hu; simp only [ntCells, List.mem_cons, List.not_mem_nil, or_false] at hu; rcases hu with rfl | rfl | rfl <;> rfl

/-- Own rows of relocations, of notes. -/
def OwnR (w : World) (B : Nat) (v : Value) (l : List Rl) : Prop := w.ownsRow B 54 4 v l.length (flat (fun j => rlCells (l.getD j Rl.nought)) l.length)
def OwnN (w : World) (B : Nat) (v : Value) (l : List Nt) : Prop := w.ownsRow B 81 3 v l.length (flat (fun j => ntCells (l.getD j Nt.nought)) l.length)
/-- What the copied symbols lie as: k of them. -/
structure Cp8 (w : World) (B : Nat) (l : List Sy) (k : Nat) (v : Value) (R N : Nat → Value) : Prop where
  row : w.ownsRow B 50 7 v k (flat (fun j => syCells (l.getD j Sy.nought) (R j) (N j)) k)
  rels : ∀ j, j < k → OwnR w B (R j) (l.getD j Sy.nought).rels
  notes : ∀ j, j < k → OwnN w B (N j) (l.getD j Sy.nought).notes
theorem Cp8.below {w w' : World} {B : Nat} {l : List Sy} {k : Nat} {v : Value} {R N : Nat → Value} (h : Cp8 w B l k v R N) (hb : Below w.heap.size w w') : Cp8 w' B l k v R N :=
  ⟨row_below h.row hb, fun j hj => row_below (h.rels j hj) hb, fun j hj => row_below (h.notes j hj) hb⟩
theorem Cp8.syms {w : World} {B : Nat} {l : List Sy} {v : Value} {R N : Nat → Value} (h : Cp8 w B l l.length v R N) : SymsAt w v l :=
  ⟨R, N, slC_of_row (fun j _ => rfl) h.row, fun j hj => ⟨slC_of_row (fun _ _ => rfl) (h.rels j hj), slC_of_row (fun _ _ => rfl) (h.notes j hj)⟩⟩
theorem row_slice {w : World} {B : Nat} {e : TypeId} {z : Nat} {v : Value} {n : Nat} {xs : List Value} (h : w.ownsRow B e z v n xs) : ∃ a c, v = .slice a n c := by
  rcases h.2 with ⟨rfl, rfl⟩ | ⟨g, cap, cur, rfl, _⟩
  · exact ⟨_, _, rfl⟩
  · exact ⟨_, _, rfl⟩
/-- One more. -/
theorem Cp8.more {w w' : World} {B : Nat} {l : List Sy} {k : Nat} {v v' r n : Value} {R N : Nat → Value} (h : Cp8 w B l k v R N) (hr : OwnR w B r (l.getD k Sy.nought).rels) (hn : OwnN w B n (l.getD k Sy.nought).notes)
    (hrow : w'.ownsRow B 50 7 v' (k + 1) (flat (fun j => syCells (l.getD j Sy.nought) (R j) (N j)) k ++ syCells (l.getD k Sy.nought) r n)) (hg : w.grownBy w' v.ownBlock) :
    Cp8 w' B l (k + 1) v' (fun j => if j = k then r else R j) (fun j => if j = k then n else N j) := by
  refine ⟨?_, fun j hj => ?_, fun j hj => ?_⟩
  · rw [flat, flat_congr (ds := fun j => syCells (l.getD j Sy.nought) (R j) (N j)) k (fun j hj => by simp only [if_neg (show j ≠ k by omega)])]
    simp only [if_true]
    exact hrow
  · by_cases hk : j = k
    · subst hk
      simp only [if_true]
      exact World.ownsRow.kept hr hg (row_apart hr h.row (by decide))
    · simp only [if_neg hk]
      have := h.rels j (by omega)
      exact World.ownsRow.kept this hg (row_apart this h.row (by decide))
  · by_cases hk : j = k
    · subst hk
      simp only [if_true]
      exact World.ownsRow.kept hn hg (row_apart hn h.row (by decide))
    · simp only [if_neg hk]
      have := h.notes j (by omega)
      exact World.ownsRow.kept this hg (row_apart this h.row (by decide))

theorem Cp8.set {w w' : World} {B g : Nat} {l : List Sy} {k : Nat} {v : Value} {R N : Nat → Value} {cs : List Value} (h : Cp8 w B l k v R N) (hb : Blk w g 50 cs) (hv : v.ownBlock ≠ some g) (hg : w.grownBy w' (some g)) : Cp8 w' B l k v R N :=
  ⟨h.row.kept hg (.inr hv), fun j hj => World.ownsRow.kept (h.rels j hj) hg (.inr (row_block hb (h.rels j hj) (by decide))), fun j hj => World.ownsRow.kept (h.notes j hj) hg (.inr (row_block hb (h.notes j hj) (by decide)))⟩
theorem Cp8.obj {w w' : World} {B g : Nat} {l : List Sy} {k : Nat} {v : Value} {R N : Nat → Value} {cs : List Value} (h : Cp8 w B l k v R N) (hb : Blk w g 43 cs) (hg : w.grownBy w' (some g)) : Cp8 w' B l k v R N :=
  ⟨h.row.kept hg (.inr (row_block hb h.row (by decide))), fun j hj => World.ownsRow.kept (h.rels j hj) hg (.inr (row_block hb (h.rels j hj) (by decide))), fun j hj => World.ownsRow.kept (h.notes j hj) hg (.inr (row_block hb (h.notes j hj) (by decide)))⟩
theorem below_set {w wr : World} (hb : Below w.heap.size w wr) {g : Nat} (hg : w.heap.size ≤ g) (i : Nat) (u : Value) : Below w.heap.size w (wr.setCell ⟨g, i, none⟩ u) := hb.setCell hg u
theorem new_sym (W : World) (a b c d e f g : Value) : ∀ j u, [a, b, c, d, e, f, g][j]? = some u → (W.alloc (.cells #[a, b, c, d, e, f, g] 50)).cell? ((⟨W.heap.size, 0, none⟩ : Addr).add j) = some u :=
  World.news_of_block (cs := #[a, b, c, d, e, f, g]) (t := 50) (fr := (0, 0)) (heap_alloc_new W _)
theorem sy_one (x : Sy) (ar an : Option Addr) (nr nn cr cn : Nat) : ∀ u ∈ syCells x (.slice ar nr cr) (.slice an nn cn), u.oneCell' = true := by
  intro u hu; simp only [syCells, List.mem_cons, List.not_mem_nil, or_false] at hu; rcases hu with rfl | rfl | rfl | rfl | rfl | rfl | rfl <;> rfl

set_option maxHeartbeats 8000000 in
set_option maxRecDepth 100000 in
theorem rcopy_own (v : Value) (x : Ob) (hf : obFits x) (w : World) (hA : ObAt w v x) : Calls Try.prog 20 #[v] w fun e w' => ∃ vs R N, e = .returned (.agg #[.string (tx x.name), vs]) ∧ Cp8 w' w.heap.size x.syms x.syms.length vs R N ∧ Below w.heap.size w w' := by
  obtain ⟨nm, l⟩ := x
  obtain ⟨hf1, hf2, hf3⟩ := hf
  obtain ⟨vs, rfl, hS⟩ := hA
  simp only at hf1 hf2 hf3 hS ⊢
  obtain ⟨a, c, rfl, h2⟩ := hS.get
  obtain ⟨iR, hiR, hzR, hsR, hbR⟩ := info_parts infoRel
  obtain ⟨iN, hiN, hzN, hsN, hbN⟩ := info_parts infoNote
  obtain ⟨iS, hiS, hzS, hsS, hbS⟩ := info_parts infoSym
  obtain ⟨n, hn⟩ : ∃ n, n = l.length := ⟨_, rfl⟩
  obtain ⟨M, hM⟩ : ∃ M, M = tx nm := ⟨_, rfl⟩
  have HF := Lib.hid (show ∀ j, j < n → syFits (l.getD j Sy.nought) from by rw [hn]; exact hf3)
  rw [← hn] at h2 hf2 ⊢
  rw [← hM]
  have hni : (n : Int) ≤ 1599289640401 := by omega
  have H2 := Lib.hid h2
  have HLen := Lib.hid hn
  have HM := Lib.hid hM
  have HB0 := Lib.hid (below_new2 w (.cells #[.string M, .slice a n c] 43) (.cells #[.string ⟨#[]⟩, .slice none 0 0] 43))
  have HX0 := Lib.hid ((Blk.new w 43 [.string M, .slice a n c]).alloc (.cells #[.string ⟨#[]⟩, .slice none 0 0] 43))
  have HY0 := Lib.hid (Blk.new2 w (.cells #[.string M, .slice a n c] 43) 43 [.string ⟨#[]⟩, .slice none 0 0])
  have HI := Lib.hid (And.intro (And.intro hiR (And.intro hzR (And.intro hsR hbR))) (And.intro (And.intro hiN (And.intro hzN (And.intro hsN hbN))) (And.intro hiS (And.intro hzS (And.intro hsS hbS)))))
  clear hn hM h2 hf1 hf2 hf3 hS hiR hzR hsR hbR hiN hzN hsN hbN hiS hzS hsS hbS
  go_enter Try.func20, Try.ntmps20
  go_wp2_with fail
  go_loopw [3, 4] (fun t3 i wr => ∃ (k : Nat) (R N : Nat → Value), (k : Int) ≤ n ∧ i = .int .i64 k ∧ Hid (Cp8 wr w.heap.size l k t3 R N) ∧ Hid (Below w.heap.size w wr) ∧ Hid (Blk wr w.heap.size 43 [.string M, .slice a n c]) ∧ Hid (Blk wr (w.heap.size + 1) 43 [.string ⟨#[]⟩, .slice none 0 0])) (fun _ i _ => n - (intOf i).toNat)
  case atStart => exact ⟨0, fun _ => undef, fun _ => undef, by omega, rfl, Lib.hid ⟨World.ownsRow_nil _ _ _ _, fun j hj => absurd hj (by omega), fun j hj => absurd hj (by omega)⟩, HB0, HX0, HY0⟩
  case round =>
    clear HB0 HX0 HY0
    obtain ⟨k, R, N, hk, rfl, HC, HB, HX, HY⟩ := hrel
    have b1 : wr.cell? ⟨w.heap.size, 1, none⟩ = some (.slice a n c) := HX.out.cell 1
    by_cases hlt : k < n
    · have hd : decide (k < n) = true := decide_eq_true hlt
      obtain ⟨b, o, rfl, hbl, hcl⟩ := H2.out (by omega)
      obtain ⟨s, hs⟩ : ∃ s, s = l.getD k Sy.nought := ⟨_, rfl⟩
      obtain ⟨vr, vn, hL, hr, hn'⟩ := hcl k hlt
      have hfs := HF.out k hlt
      rw [← hs] at hL hr hn' hfs
      obtain ⟨c0, c1, c2, c3, c4, c5, c6⟩ := (hL.below HB.out hbl).sy
      have hbr : b < wr.heap.size := Nat.lt_of_lt_of_le hbl HB.out.size
      have HRel := Lib.hid (fun W (hq : Below w.heap.size w W) => hr.below hq)
      have HNot := Lib.hid (fun W (hq : Below w.heap.size w W) => hn'.below hq)
      obtain ⟨ra, rc, hrv, _⟩ := hr
      obtain ⟨na, nc, hnv, _⟩ := hn'
      obtain ⟨u0, g0⟩ : ∃ u, u = tx s.name := ⟨_, rfl⟩
      obtain ⟨u1, g1⟩ : ∃ u, u = s.bind := ⟨_, rfl⟩
      obtain ⟨u2, g2⟩ : ∃ u, u = s.kind := ⟨_, rfl⟩
      obtain ⟨u3, g3⟩ : ∃ u, u = s.size := ⟨_, rfl⟩
      obtain ⟨u4, g4⟩ : ∃ u, u = tx s.bytes := ⟨_, rfl⟩
      obtain ⟨rn, hrn⟩ : ∃ x, x = s.rels.length := ⟨_, rfl⟩
      obtain ⟨nn, hnn⟩ : ∃ x, x = s.notes.length := ⟨_, rfl⟩
      rw [← hrn] at hrv
      rw [← hnn] at hnv
      have HCells : Hid (∀ x y, syCells s x y = [.string u0, .int .u8 u1, .int .u8 u2, .int .u32 u3, .string u4, x, y]) := Lib.hid (fun x y => by unfold syCells; rw [g0, g1, g2, g3, g4])
      have HLr : Hid (rn = s.rels.length ∧ rn * 32 ≤ 140737488355328) := Lib.hid ⟨hrn, by rw [hrn]; exact hfs.2.2.2.2.2.1⟩
      have HLn : Hid (nn = s.notes.length ∧ nn * 12 ≤ 140737488355328) := Lib.hid ⟨hnn, by rw [hnn]; exact hfs.2.2.2.2.2.2.1⟩
      rw [← g0] at c0
      rw [← g1] at c1
      rw [← g2] at c2
      rw [← g3] at c3
      rw [← g4] at c4
      have HS := Lib.hid hs
      clear hcl hs hL hfs g0 g1 g2 g3 g4 hrn hnn
      subst hrv hnv
      have HBa := Lib.hid (below_box HB.out (.cells #[.string u0, .int .u8 u1, .int .u8 u2, .int .u32 u3, .string u4, .slice ra rn rc, .slice na nn nc] 50))
      have HXa := Lib.hid (HX.out.alloc (.cells #[.string u0, .int .u8 u1, .int .u8 u2, .int .u32 u3, .string u4, .slice ra rn rc, .slice na nn nc] 50))
      have HYa := Lib.hid (HY.out.alloc (.cells #[.string u0, .int .u8 u1, .int .u8 u2, .int .u32 u3, .string u4, .slice ra rn rc, .slice na nn nc] 50))
      have HZa := Lib.hid (Blk.new wr 50 [.string u0, .int .u8 u1, .int .u8 u2, .int .u32 u3, .string u4, .slice ra rn rc, .slice na nn nc])
      have HCa := Lib.hid (HC.out.below (below_new1 wr (.cells #[.string u0, .int .u8 u1, .int .u8 u2, .int .u32 u3, .string u4, .slice ra rn rc, .slice na nn nc] 50)))
      go_upto_region 6 with (fail)
      obtain ⟨wa, hwa⟩ : ∃ wa, wa = wr.alloc (.cells #[.string u0, .int .u8 u1, .int .u8 u2, .int .u32 u3, .string u4, .slice ra rn rc, .slice na nn nc] 50) := ⟨_, rfl⟩
      rw [← hwa] at HBa HXa HYa HZa HCa ⊢
      clear b1 c0 c1 c2 c3 c4 c5 c6 hwa
      obtain ⟨gs, hgs⟩ : ∃ gs, gs = wr.heap.size := ⟨_, rfl⟩
      have HGS : Hid (w.heap.size ≤ gs ∧ ∀ q, (∃ m xs, wr.ownsRow w.heap.size 50 7 q m xs) → q.ownBlock ≠ some gs) := Lib.hid ⟨by rw [hgs]; exact HB.out.size, fun q ⟨m, xs, hq⟩ he => by have := (World.ownsRow.lt hq _ he).2; omega⟩
      rw [← hgs] at HZa ⊢
      clear hgs
      have a5 : wa.cell? ⟨gs, 5, none⟩ = some (.slice ra rn rc) := HZa.out.cell 5
      obtain ⟨csR, hcsR⟩ : ∃ csR : Nat → List Value, csR = fun j => rlCells (s.rels.getD j Rl.nought) := ⟨_, rfl⟩
      obtain ⟨csN, hcsN⟩ : ∃ csN : Nat → List Value, csN = fun j => ntCells (s.notes.getD j Nt.nought) := ⟨_, rfl⟩
      have HRs : Hid ((∀ j, j < rn → (csR j).length = 4) ∧ (∀ j, j < rn → ∀ u ∈ csR j, u.oneCell' = true) ∧ (∀ W, Below w.heap.size w W → SlC W (.slice ra rn rc) rn 4 csR) ∧ rn ≤ maxLen) := Lib.hid ⟨fun j _ => by rw [hcsR]; rfl, fun j _ => by rw [hcsR]; exact rl_one _, fun W hW => by rw [hcsR, HLr.out.1]; have := HRel.out W hW; rw [HLr.out.1] at this; exact this, by have := HLr.out.2; unfold maxLen; omega⟩
      have HNs : Hid ((∀ j, j < nn → (csN j).length = 3) ∧ (∀ j, j < nn → ∀ u ∈ csN j, u.oneCell' = true) ∧ (∀ W, Below w.heap.size w W → SlC W (.slice na nn nc) nn 3 csN) ∧ nn ≤ maxLen) := Lib.hid ⟨fun j _ => by rw [hcsN]; rfl, fun j _ => by rw [hcsN]; exact nt_one _, fun W hW => by rw [hcsN, HLn.out.1]; have := HNot.out W hW; rw [HLn.out.1] at this; exact this, by have := HLn.out.2; unfold maxLen; omega⟩
      have HcR := Lib.hid hcsR
      have HcN := Lib.hid hcsN
      clear hcsR hcsN HRel HNot
      go_wp2_with (at_builtin; refine wpList_append_all rfl _ _ _ rfl w.heap.size 54 iR _ 4 32 Try.underlying47 HI.out.1.1 HI.out.1.2.1 HI.out.1.2.2.1 HI.out.1.2.2.2 rfl (by decide) rfl (.slice ra rn rc) rn csR rfl (HRs.out.2.2.1 wa HBa.out) HRs.out.1 HRs.out.2.1 HRs.out.2.2.2 HLr.out.2 HBa.out.size ?_)
      intro v1 w1 h6 h7
      have HB1 := Lib.hid (below_call HBa.out (grown_none h7))
      have HX1 := Lib.hid (HXa.out.call (grown_none h7))
      have HY1 := Lib.hid (HYa.out.call (grown_none h7))
      have HZ1 := Lib.hid (HZa.out.call (grown_none h7))
      have HC1 := Lib.hid (HCa.out.below (grown_none h7))
      have HR1 : Hid (OwnR w1 w.heap.size v1 s.rels) := Lib.hid (by unfold OwnR; rw [← HLr.out.1, ← HcR.out]; exact h6)
      obtain ⟨a1, cc1, hv1⟩ := row_slice h6
      clear h6 h7 a5
      subst hv1
      have b5 : w1.cell? ⟨gs, 5, none⟩ = some (.slice ra rn rc) := HZ1.out.cell 5
      have f5 : w1.frozen? ⟨gs, 5, none⟩ = false := HZ1.out.frozen 5
      have hg1 : gs < w1.heap.size := HZ1.out.lt
      go_upto_region 7 with (fail)
      have HB2 := Lib.hid (below_set HB1.out HGS.out.1 5 (.slice a1 rn cc1))
      have HX2 := Lib.hid (HX1.out.far (p := ⟨gs, 5, none⟩) (HX1.out.ne HZ1.out (by decide)) (.slice a1 rn cc1))
      have HY2 := Lib.hid (HY1.out.far (p := ⟨gs, 5, none⟩) (HY1.out.ne HZ1.out (by decide)) (.slice a1 rn cc1))
      have HZ2 := Lib.hid (HZ1.out.set_ 5 (.slice a1 rn cc1))
      have HC2 := Lib.hid (HC1.out.set HZ1.out (HGS.out.2 _ ⟨_, _, HC.out.row⟩) (grown_set w1 gs 5 (.slice a1 rn cc1)))
      have HR2 : Hid (OwnR (w1.setCell ⟨gs, 5, none⟩ (.slice a1 rn cc1)) w.heap.size (.slice a1 rn cc1) s.rels) := Lib.hid (World.ownsRow.kept HR1.out (grown_set w1 gs 5 (.slice a1 rn cc1)) (.inr (row_block HZ1.out HR1.out (by decide))))
      clear HB1 HX1 HY1 HZ1 HC1 HR1 HBa HXa HYa HZa HCa b5 f5 hg1 HX HY HB
      obtain ⟨w2, hw2⟩ : ∃ w2, w2 = w1.setCell ⟨gs, 5, none⟩ (.slice a1 rn cc1) := ⟨_, rfl⟩
      rw [← hw2] at HB2 HX2 HY2 HZ2 HC2 HR2 ⊢
      clear hw2
      have b6 : w2.cell? ⟨gs, 6, none⟩ = some (.slice na nn nc) := HZ2.out.cell 6
      go_wp2_with (at_builtin; refine wpList_append_all rfl _ _ _ rfl w.heap.size 81 iN _ 3 12 Try.underlying48 HI.out.2.1.1 HI.out.2.1.2.1 HI.out.2.1.2.2.1 HI.out.2.1.2.2.2 rfl (by decide) rfl (.slice na nn nc) nn csN rfl (HNs.out.2.2.1 w2 HB2.out) HNs.out.1 HNs.out.2.1 HNs.out.2.2.2 HLn.out.2 HB2.out.size ?_)
      intro v2 w3 h6 h7
      have HB3 := Lib.hid (below_call HB2.out (grown_none h7))
      have HX3 := Lib.hid (HX2.out.call (grown_none h7))
      have HY3 := Lib.hid (HY2.out.call (grown_none h7))
      have HZ3 := Lib.hid (HZ2.out.call (grown_none h7))
      have HC3 := Lib.hid (HC2.out.below (grown_none h7))
      have HR3 : Hid (OwnR w3 w.heap.size (.slice a1 rn cc1) s.rels) := Lib.hid (row_below HR2.out (grown_none h7))
      have HN3 : Hid (OwnN w3 w.heap.size v2 s.notes) := Lib.hid (by unfold OwnN; rw [← HLn.out.1, ← HcN.out]; exact h6)
      obtain ⟨a2, cc2, hv2⟩ := row_slice h6
      clear h6 h7 b6
      subst hv2
      have b6 : w3.cell? ⟨gs, 6, none⟩ = some (.slice na nn nc) := HZ3.out.cell 6
      have f6 : w3.frozen? ⟨gs, 6, none⟩ = false := HZ3.out.frozen 6
      have hg3 : gs < w3.heap.size := HZ3.out.lt
      go_upto_region 8 with (fail)
      have HB4 := Lib.hid (below_set HB3.out HGS.out.1 6 (.slice a2 nn cc2))
      have HX4 := Lib.hid (HX3.out.far (p := ⟨gs, 6, none⟩) (HX3.out.ne HZ3.out (by decide)) (.slice a2 nn cc2))
      have HY4 := Lib.hid (HY3.out.far (p := ⟨gs, 6, none⟩) (HY3.out.ne HZ3.out (by decide)) (.slice a2 nn cc2))
      have HZ4 := Lib.hid (HZ3.out.set_ 6 (.slice a2 nn cc2))
      have HC4 := Lib.hid (HC3.out.set HZ3.out (HGS.out.2 _ ⟨_, _, HC.out.row⟩) (grown_set w3 gs 6 (.slice a2 nn cc2)))
      have HR4 : Hid (OwnR (w3.setCell ⟨gs, 6, none⟩ (.slice a2 nn cc2)) w.heap.size (.slice a1 rn cc1) s.rels) := Lib.hid (World.ownsRow.kept HR3.out (grown_set w3 gs 6 (.slice a2 nn cc2)) (.inr (row_block HZ3.out HR3.out (by decide))))
      have HN4 : Hid (OwnN (w3.setCell ⟨gs, 6, none⟩ (.slice a2 nn cc2)) w.heap.size (.slice a2 nn cc2) s.notes) := Lib.hid (World.ownsRow.kept HN3.out (grown_set w3 gs 6 (.slice a2 nn cc2)) (.inr (row_block HZ3.out HN3.out (by decide))))
      clear HB3 HX3 HY3 HZ3 HC3 HR3 HN3 HB2 HX2 HY2 HZ2 HC2 HR2 b6 f6 hg3
      obtain ⟨w4, hw4⟩ : ∃ w4, w4 = w3.setCell ⟨gs, 6, none⟩ (.slice a2 nn cc2) := ⟨_, rfl⟩
      rw [← hw4] at HB4 HX4 HY4 HZ4 HC4 HR4 HN4 ⊢
      clear hw4
      have d0 : w4.cell? ⟨gs, 0, none⟩ = some (.string u0) := HZ4.out.cell 0
      have d1 : w4.cell? ⟨gs, 1, none⟩ = some (.int .u8 u1) := HZ4.out.cell 1
      have d2 : w4.cell? ⟨gs, 2, none⟩ = some (.int .u8 u2) := HZ4.out.cell 2
      have d3 : w4.cell? ⟨gs, 3, none⟩ = some (.int .u32 u3) := HZ4.out.cell 3
      have d4 : w4.cell? ⟨gs, 4, none⟩ = some (.string u4) := HZ4.out.cell 4
      have d5 : w4.cell? ⟨gs, 5, none⟩ = some (.slice a1 rn cc1) := HZ4.out.cell 5
      have d6 : w4.cell? ⟨gs, 6, none⟩ = some (.slice a2 nn cc2) := HZ4.out.cell 6
      have K1 : Hid (k + 1 ≤ maxLen ∧ (k + 1) * 88 ≤ 140737488355328) := Lib.hid (by unfold maxLen; omega)
      have hone : Hid (∀ u ∈ [Value.string u0, .int .u8 u1, .int .u8 u2, .int .u32 u3, .string u4, .slice a1 rn cc1, .slice a2 nn cc2], u.oneCell' = true) := Lib.hid (by rw [← HCells.out]; exact sy_one _ _ _ _ _ _ _)
      have hBs : Hid (w.heap.size ≤ (w4.alloc (.cells #[.string u0, .int .u8 u1, .int .u8 u2, .int .u32 u3, .string u4, .slice a1 rn cc1, .slice a2 nn cc2] 50)).heap.size) := Lib.hid (below_box HB4.out _).size
      go_wp2_with (at_builtin; refine wpList_append_own _ rfl _ _ _ rfl w.heap.size 50 iS _ 7 88 Try.underlying41 HI.out.2.2.1 HI.out.2.2.2.1 HI.out.2.2.2.2.1 HI.out.2.2.2.2.2 rfl (by decide) _ _ _ rfl (HC4.out.row.alloc _) ⟨w4.heap.size, 0, none⟩ 1 1 [.string u0, .int .u8 u1, .int .u8 u2, .int .u32 u3, .string u4, .slice a1 rn cc1, .slice a2 nn cc2] rfl rfl (new_sym _ _ _ _ _ _ _ _) hone.out K1.out.1 K1.out.2 hBs.out ?_)
      intro v5 w5 h6 h7 _
      have hCx := HC4.out.below (below_new1 w4 (.cells #[.string u0, .int .u8 u1, .int .u8 u2, .int .u32 u3, .string u4, .slice a1 rn cc1, .slice a2 nn cc2] 50))
      have hRx := row_below HR4.out (below_new1 w4 (.cells #[.string u0, .int .u8 u1, .int .u8 u2, .int .u32 u3, .string u4, .slice a1 rn cc1, .slice a2 nn cc2] 50))
      have hNx := row_below HN4.out (below_new1 w4 (.cells #[.string u0, .int .u8 u1, .int .u8 u2, .int .u32 u3, .string u4, .slice a1 rn cc1, .slice a2 nn cc2] 50))
      have HC5 := Lib.hid (hCx.more (v' := v5) (r := .slice a1 rn cc1) (n := .slice a2 nn cc2) (by rw [← HS.out]; exact hRx) (by rw [← HS.out]; exact hNx) (by rw [← HS.out, HCells.out]; exact h6) h7)
      have HB5 : Hid (Below w.heap.size w w5) := Lib.hid ((below_box HB4.out _).grown h7 (below_box HB4.out _).size (fun q hq => (hCx.row.lt q hq).1))
      have HX5 : Hid (Blk w5 w.heap.size 43 [.string M, .slice (some ⟨b, o, none⟩) n c]) := Lib.hid ((HX4.out.alloc _).grown h7 (row_block (HX4.out.alloc _) hCx.row (by decide)).symm)
      have HY5 : Hid (Blk w5 (w.heap.size + 1) 43 [.string ⟨#[]⟩, .slice none 0 0]) := Lib.hid ((HY4.out.alloc _).grown h7 (row_block (HY4.out.alloc _) hCx.row (by decide)).symm)
      clear h6 h7 hCx hRx hNx HC4 HR4 HN4 HX4 HY4 HZ4 HB4 d0 d1 d2 d3 d4 d5 d6 hone hBs K1 HRs HNs HcR HcN HS HCells HC
      go_wp2_with fail
      go_roundw
      case rel => exact ⟨k + 1, _, _, by omega, by go_num, HC5, HB5, HX5, HY5⟩
      case measure => simp [intOf]; omega
    · have hd : decide (k < n) = false := decide_eq_false hlt
      obtain rfl : k = n := by omega
      obtain ⟨av, cv, hv⟩ := row_slice HC.out.row
      clear hlt
      subst hv
      have f1 : wr.frozen? ⟨w.heap.size, 1, none⟩ = false := HX.out.frozen 1
      have hg1 : w.heap.size < wr.heap.size := HX.out.lt
      go_upto_region 10 with (fail)
      have HX1 := Lib.hid (HX.out.set_ 1 (.slice av k cv))
      have HY1 := Lib.hid (HY.out.far (p := ⟨w.heap.size, 1, none⟩) (by simp) (.slice av k cv))
      have HB1 := Lib.hid (below_set HB.out (Nat.le_refl _) 1 (.slice av k cv))
      obtain ⟨w1, hw1⟩ : ∃ w1, w1 = wr.setCell ⟨w.heap.size, 1, none⟩ (.slice av k cv) := ⟨_, rfl⟩
      have HC1 : Hid (Cp8 w1 w.heap.size l l.length (.slice av k cv) R N) := Lib.hid (by
        rw [← HLen.out, hw1]
        exact HC.out.obj HX.out (grown_set wr _ 1 _))
      rw [← hw1] at HX1 HY1 HB1 ⊢
      clear hw1 f1 hg1 b1
      have b0 : w1.cell? ⟨w.heap.size, 0, none⟩ = some (.string M) := HX1.out.cell 0
      have b1 : w1.cell? ⟨w.heap.size, 1, none⟩ = some (.slice av k cv) := HX1.out.cell 1
      have y0 : w1.cell? ⟨w.heap.size + 1, 0, none⟩ = some (.string ⟨#[]⟩) := HY1.out.cell 0
      have y1 : w1.cell? ⟨w.heap.size + 1, 1, none⟩ = some (.slice none 0 0) := HY1.out.cell 1
      have z0 : w1.frozen? ⟨w.heap.size + 1, 0, none⟩ = false := HY1.out.frozen 0
      have z1 : w1.frozen? ⟨w.heap.size + 1, 1, none⟩ = false := HY1.out.frozen 1
      have hg1 : w.heap.size + 1 < w1.heap.size := HY1.out.lt
      go_wp2_with fail
      have HY2 := (HY1.out.set_ 0 (.string M)).set_ 1 (.slice av k cv)
      refine bodyPost_ret (v := .agg #[.string M, .slice av k cv]) (results_cell_row Try.results20 _ _ (w.heap.size + 1) 43 _ (0, 0) _ rfl HY2 Try.underlying43 rfl (by kernel_rfl)) rfl ⟨.slice av k cv, R, N, by rw [HM.out], ?_, ?_⟩
      · have h8 := (HC1.out.obj HY1.out (grown_set w1 _ 0 (.string M))).obj (HY1.out.set_ 0 (.string M)) (grown_set _ _ 1 (.slice av k cv))
        rw [← HLen.out] at h8
        exact h8
      · exact below_set (below_set HB1.out (Nat.le_succ _) 0 _) (Nat.le_succ _) 1 _
theorem rcopy_any (v : Value) (x : Ob) (hf : obFits x) (w : World) (hA : ObAt w v x) : Calls Try.prog 20 #[v] w fun e w' => ∃ v', e = .returned v' ∧ ObAt w' v' x ∧ Below w.heap.size w w' := by
  refine (rcopy_own v x hf w hA).mono ?_
  rintro e w' ⟨vs, R, N, rfl, h1, h2⟩
  exact ⟨_, rfl, ⟨vs, rfl, h1.syms⟩, h2⟩
end Go.Proofs.Ytfnofolahhoggaa
