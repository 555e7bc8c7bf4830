/- The program's gathered and Of. -/
import Derived.Test.YtmfebmiigkmkbaaDL
import Derived.Laws.ResultCell
set_option linter.unusedVariables false
set_option linter.unusedSimpArgs false
namespace Go.Proofs.Ytmfebmiigkmkbaa
open Go Go.RowKit Oj Dm

theorem infoMan : (Try.prog.info? 26).map (·.size) = some 4 := by kernel_rfl
theorem infoMan' : (Try.prog.info? 26).map (fun i => (i.zero, i.size, i.bytes)) = some (some (.agg #[.int .u32 0, .slice none 0 0, .slice none 0 0, .bool false]), 4, 64) := by kernel_rfl
theorem infoNote : (Try.prog.info? 28).map (fun i => (i.zero, i.size, i.bytes)) = some (some (.agg #[.int .u8 0, .int .u32 0, .int .u32 0]), 3, 12) := by kernel_rfl
/-- What a function hands back out of a variable that holds a manifest, and a number. -/
theorem res_mf_tmp {fn : Func} {p u : Tmp} (h : fn.results = #[.cell p 26, .tmp u]) (tmps : Array Value) (w : World) (k : Nat) (a b c d v : Value) (hp : tmps.getD p undef = .pointer (some ⟨k, 0, none⟩)) (hv : tmps.getD u undef = v)
    (hb : Blk w k 26 [a, b, c, d]) : (results fn tmps).run Try.prog w = .ok (.tuple #[.agg #[a, b, c, d], v]) w := by
  have hb' : w.heap[k]? = some (.cells #[a, b, c, d] 26 (0, 0)) := hb
  rw [results_cell_tmp h, hp, hv]
  simp [asAddr, Result.andThen, run_loadVar_row w k 26 26 _ (0, 0) _ hb' Try.underlying26 rfl infoMan]
/-- A manifest whose rows are a call's own: they lie at B or behind it. -/
def MfOwn (w : World) (B : Nat) (v : Value) (m : Mf) : Prop := ∃ vx vp, v = mfV m vx vp ∧ OwnX w B vx m.ext ∧ OwnP w B vp m.ports
theorem MfOwn.at {w : World} {B : Nat} {v : Value} {m : Mf} (h : MfOwn w B v m) : MfAt w v m := by
  obtain ⟨vx, vp, h1, h2, h3⟩ := h
  exact ⟨vx, vp, h1, h2.at, h3.at⟩
theorem MfOwn.below {w w' : World} {B : Nat} {v : Value} {m : Mf} (h : MfOwn w B v m) (hb : Below w.heap.size w w') : MfOwn w' B v m := by
  obtain ⟨vx, vp, h1, h2, h3⟩ := h
  exact ⟨vx, vp, h1, row_below h2 hb, row_below h3 hb⟩
theorem row_base {w : World} {B B' : Nat} {e : TypeId} {z : Nat} {v : Value} {n : Nat} {xs : List Value} (h : w.ownsRow B e z v n xs) (hB : B' ≤ B) : w.ownsRow B' e z v n xs := by
  refine ⟨h.1, ?_⟩
  rcases h.2 with hn | ⟨g, cap, cur, hv, hb, rest⟩
  · exact .inl hn
  · exact .inr ⟨g, cap, cur, hv, Nat.le_trans hB hb, rest⟩
theorem MfOwn.base {w : World} {B B' : Nat} {v : Value} {m : Mf} (h : MfOwn w B v m) (hB : B' ≤ B) : MfOwn w B' v m := by
  obtain ⟨vx, vp, h1, h2, h3⟩ := h
  exact ⟨vx, vp, h1, row_base h2 hB, row_base h3 hB⟩
/-- A block of another type written. -/
theorem MfOwn.grown {w w' : World} {B r : Nat} {t : TypeId} {cs : List Value} {v : Value} {m : Mf} (h : MfOwn w B v m) (hb : Blk w r t cs) (h1 : t ≠ 50) (h2 : t ≠ 51) (hg : w.grownBy w' (some r)) : MfOwn w' B v m := by
  obtain ⟨vx, vp, h3, h4, h5⟩ := h
  exact ⟨vx, vp, h3, World.ownsRow.kept h4 hg (.inr (row_block hb h4 h1)), World.ownsRow.kept h5 hg (.inr (row_block hb h5 h2))⟩
/-- What a call that makes a manifest answers: it, and an error's number. -/
def MPost (w : World) (R : Mf × Int) (e : Ending) (w' : World) : Prop := ∃ v, e = .returned (.tuple #[v, .int .i64 R.2]) ∧ MfOwn w' w.heap.size v R.1 ∧ Below w.heap.size w w'
theorem mf_zero (w : World) (B : Nat) : MfOwn w B (.agg #[.int .u32 0, .slice none 0 0, .slice none 0 0, .bool false]) Mf.nought :=
  ⟨.slice none 0 0, .slice none 0 0, rfl, World.ownsRow_nil _ _ _ _, World.ownsRow_nil _ _ _ _⟩
def zM : List Value := [.int .u32 0, .slice none 0 0, .slice none 0 0, .bool false]
theorem GA.own {w : World} {B p : Nat} {m : Mf} {vx vp : Value} (h : GA w B p m vx vp) : MfOwn w B (mfV m vx vp) m := ⟨vx, vp, rfl, h.x, h.t⟩
/-- Four cells stored, one by one. -/
theorem Blk.put4 {w : World} {g : Nat} {t : TypeId} {a b c d : Value} (h : Blk w g t [a, b, c, d]) (x y z u : Value) : Blk ((((w.setCell ⟨g, 0, none⟩ x).setCell ⟨g, 1, none⟩ y).setCell ⟨g, 2, none⟩ z).setCell ⟨g, 3, none⟩ u) g t [x, y, z, u] :=
  (((h.set_ 0 x).set_ 1 y).set_ 2 z).set_ 3 u
theorem below_put4 {w0 w : World} (h : Below w0.heap.size w0 w) {g : Nat} (hg : w0.heap.size ≤ g) (x y z u : Value) : Below w0.heap.size w0 ((((w.setCell ⟨g, 0, none⟩ x).setCell ⟨g, 1, none⟩ y).setCell ⟨g, 2, none⟩ z).setCell ⟨g, 3, none⟩ u) :=
  below_set (below_set (below_set (below_set h hg 0 x) hg 1 y) hg 2 z) hg 3 u
theorem grown_put4 (w : World) (g : Nat) (x y z u : Value) : w.grownBy ((((w.setCell ⟨g, 0, none⟩ x).setCell ⟨g, 1, none⟩ y).setCell ⟨g, 2, none⟩ z).setCell ⟨g, 3, none⟩ u) (some g) :=
  grown_trans (grown_trans (grown_trans (grown_set w g 0 x) (grown_set _ g 1 y)) (grown_set _ g 2 z)) (grown_set _ g 3 u)
theorem GA.grown {w w' : World} {B p r : Nat} {m : Mf} {vx vp : Value} (h : GA w B p m vx vp) (hg : w.grownBy w' (some r)) (hr : r < B) (hne : r ≠ p) : GA w' B p m vx vp :=
  ⟨h.blk.grown hg (by intro he; cases he; exact hne rfl), World.ownsRow.kept h.x hg (row_or h.x hr), World.ownsRow.kept h.t hg (row_or h.t hr), h.lt⟩

set_option maxHeartbeats 8000000 in
set_option maxRecDepth 100000 in
theorem gathered_any (v : Value) (l : List Nt) (w : World) (hA : NotesAt w v l) (hg : Dm.Good l) (hf : ntsFit l) (hl : l.length ≤ 1048574) : Calls Try.prog 33 #[v] w (MPost w (full (gat l))) := by
  obtain ⟨a, c, rfl, h3⟩ := hA
  obtain ⟨n, hn⟩ : ∃ n, n = l.length := ⟨_, rfl⟩
  have hni : (n : Int) ≤ 1048574 := by omega
  rw [← hn] at h3 ⊢
  have HN := Lib.hid hn
  have H3 := Lib.hid h3
  have HF := Lib.hid hf.2
  have HGd := Lib.hid hg
  obtain ⟨r, hr⟩ : ∃ r, r = w.heap.size := ⟨_, rfl⟩
  have HB0 := Lib.hid (below_new2 w (.cells #[.int .u32 0, .slice none 0 0, .slice none 0 0, .bool false] 26) (.cells #[.int .u32 0, .slice none 0 0, .slice none 0 0, .bool false] 66))
  have HR0 : Hid (Blk ((w.alloc (.cells #[.int .u32 0, .slice none 0 0, .slice none 0 0, .bool false] 26)).alloc (.cells #[.int .u32 0, .slice none 0 0, .slice none 0 0, .bool false] 66)) w.heap.size 26 zM) := Lib.hid ((Blk.new w 26 zM).alloc _)
  have HG0 : Hid (∃ vx vp, GA ((w.alloc (.cells #[.int .u32 0, .slice none 0 0, .slice none 0 0, .bool false] 26)).alloc (.cells #[.int .u32 0, .slice none 0 0, .slice none 0 0, .bool false] 66)) (w.heap.size + 2) (w.heap.size + 1) (gat (l.take 0)) vx vp) :=
    Lib.hid ⟨.slice none 0 0, .slice none 0 0, Blk.new2 w _ 66 zM, World.ownsRow_nil _ _ _ _, World.ownsRow_nil _ _ _ _, Nat.lt_succ_self _⟩
  have HS0 : Hid (w.heap.size + 2 ≤ ((w.alloc (.cells #[.int .u32 0, .slice none 0 0, .slice none 0 0, .bool false] 26)).alloc (.cells #[.int .u32 0, .slice none 0 0, .slice none 0 0, .bool false] 66)).heap.size) := Lib.hid (by simp)
  clear hn h3 hg hf hl hr
  go_enter Try.func33, Try.ntmps33
  go_wp2_with fail
  go_loopw [9] (fun i wr => ∃ k : Nat, (k : Int) ≤ n ∧ i = .int .i64 k ∧ Hid (∃ vx vp, GA wr (w.heap.size + 2) (w.heap.size + 1) (gat (l.take k)) vx vp) ∧ Hid (Below w.heap.size w wr) ∧ Hid (Blk wr w.heap.size 26 zM) ∧ Hid (w.heap.size + 2 ≤ wr.heap.size) ∧ Hid ((gat (l.take k)).ports.length ≤ 16)) (fun i _ => n - (intOf i).toNat)
  case atStart => exact ⟨0, by omega, rfl, HG0, HB0, HR0, HS0, Lib.hid (show (gat []).ports.length ≤ 16 from by decide)⟩
  case round =>
    clear HG0 HB0 HR0 HS0
    obtain ⟨k, hk, rfl, HG, HB, HR, HS, HL⟩ := hrel
    by_cases hlt : k < n
    · have hd : decide (k < n) = true := decide_eq_true hlt
      obtain ⟨b, o, rfl, hbl, hcl⟩ := H3.out (by omega)
      obtain ⟨x, hx⟩ : ∃ x, x = l.getD k Nt.nought := ⟨_, rfl⟩
      have hL := (hcl k hlt).below HB.out hbl
      have hfx := HF.out k (by rw [← HN.out]; exact hlt)
      have hgx := HGd.out _ ((mem_at Nt.nought).2 ⟨k, by rw [← HN.out]; exact hlt, rfl⟩)
      rw [← hx] at hL hfx hgx
      obtain ⟨c0, c1, c2⟩ := hL.nt
      have hbr : b < wr.heap.size := Nat.lt_of_lt_of_le hbl HB.out.size
      obtain ⟨x0, h0⟩ : ∃ y, y = x.kind := ⟨_, rfl⟩
      obtain ⟨x1, h1⟩ : ∃ y, y = x.n := ⟨_, rfl⟩
      obtain ⟨x2, h2⟩ : ∃ y, y = x.m := ⟨_, rfl⟩
      have hxe : x = ⟨x0, x1, x2⟩ := by rw [h0, h1, h2]
      rw [← h0] at c0
      rw [← h1] at c1
      rw [← h2] at c2
      have HM2 : Hid (gat (l.take (k + 1)) = add (gat (l.take k)) ⟨x0, x1, x2⟩) := Lib.hid (by rw [gat_succ (by rw [← HN.out]; exact hlt), ← hx, hxe])
      rw [hxe] at hfx hgx
      obtain ⟨vx, vp, hG⟩ := HG.out
      have hGa := hG.below (below_new1 wr (.cells #[.int .u8 x0, .int .u32 x1, .int .u32 x2] 28))
      have hlen := len_gat (l.take k)
      have hlk : (l.take k).length ≤ 1048574 := by rw [List.length_take, ← HN.out]; omega
      have HC := Lib.hid (gather_any (w.heap.size + 2) (w.heap.size + 1) (gat (l.take k)) vx vp ⟨x0, x1, x2⟩ hgx.1 hfx _ hGa (Nat.le_trans HS.out (by simp)) (fine_gat (fun y hy => HGd.out y (List.mem_of_mem_take hy))) (by omega) (by omega))
      have HBa := Lib.hid (below_box HB.out (.cells #[.int .u8 x0, .int .u32 x1, .int .u32 x2] 28))
      have HRa := Lib.hid (HR.out.alloc (.cells #[.int .u8 x0, .int .u32 x1, .int .u32 x2] 28))
      have HSa : Hid (w.heap.size + 2 ≤ (wr.alloc (.cells #[.int .u8 x0, .int .u32 x1, .int .u32 x2] 28)).heap.size) := Lib.hid (Nat.le_trans HS.out (by simp))
      unfold ntV at HC
      simp only at HC
      clear hL hfx hgx hx h0 h1 h2 hxe hG hGa hlen hlk hcl HG
      go_wp2_with fail
      refine HC.out.mono ?_; rintro e w2 ⟨rfl, vx2, vp2, hG2, hK2⟩
      rw [← HM2.out] at hG2
      have HG2 : Hid (∃ vx vp, GA w2 (w.heap.size + 2) (w.heap.size + 1) (gat (l.take (k + 1))) vx vp) := Lib.hid ⟨_, _, hG2⟩
      have HB2 : Hid (Below w.heap.size w w2) := Lib.hid (HBa.out.trans (hK2.below (by omega) (by omega)))
      have HR2 : Hid (Blk w2 w.heap.size 26 zM) := Lib.hid (hK2.blk HRa.out (by omega) (by omega))
      have HS2 : Hid (w.heap.size + 2 ≤ w2.heap.size) := Lib.hid (Nat.le_trans HSa.out hK2.size)
      obtain ⟨ap, cp, hvp⟩ := row_sl hG2.t
      obtain ⟨np, hnp⟩ : ∃ np, np = (gat (l.take (k + 1))).ports.length := ⟨_, rfl⟩
      rw [← hnp] at hvp
      subst hvp
      have d2 : w2.cell? ⟨w.heap.size + 1, 2, none⟩ = some (.slice ap np cp) := hG2.blk.cell 2
      have hnp2 : (np : Int) ≤ 1048575 := by
        have h1 := len_gat (l.take (k + 1))
        rw [List.length_take, ← HN.out] at h1
        omega
      have HNP := Lib.hid hnp
      clear hnp hG2 hK2 HC HBa HRa HSa HB HR HS HL c0 c1 c2
      by_cases h16 : np ≤ 16
      · have hi16 : (np : Int) ≤ 16 := by omega
        go_wp2_with fail
        clear d2
        go_roundw
        case rel => exact ⟨k + 1, by omega, by go_num, HG2, HB2, HR2, HS2, Lib.hid (by rw [← HNP.out]; exact h16)⟩
        case measure => simp [intOf]; omega
      · have hi16 : (16 : Int) < np := by omega
        have HFull : Hid (full (gat l) = (Mf.nought, 4)) := Lib.hid (by
          unfold full
          have h1 := len_prefix (l.take (k + 1)) (l.drop (k + 1))
          rw [List.take_append_drop, ← HNP.out] at h1
          rw [if_neg (by omega)])
        obtain ⟨e0, e1, e2, e3⟩ := HR2.out.four
        have f0 := HR2.out.frozen 0
        have f1 := HR2.out.frozen 1
        have f2 := HR2.out.frozen 2
        have f3 := HR2.out.frozen 3
        have hrl := HR2.out.lt
        go_wp2_with fail
        refine bodyPost_ret (res_mf_tmp Try.results33 _ _ w.heap.size _ _ _ _ _ rfl rfl (HR2.out.put4 _ _ _ _)) rfl ⟨.agg #[.int .u32 0, .slice none 0 0, .slice none 0 0, .bool false], by rw [HFull.out]; rfl, by rw [HFull.out]; exact mf_zero _ _, below_put4 HB2.out (Nat.le_refl _) _ _ _ _⟩
    · have hd : decide (k < n) = false := decide_eq_false hlt
      have hkn : k = n := by omega
      have HFull : Hid (full (gat l) = (gat l, 0) ∧ l.take k = l) := Lib.hid (by
        have h1 : l.take k = l := List.take_of_length_le (by rw [← HN.out]; omega)
        have h2 := HL.out
        rw [h1] at h2
        exact ⟨by unfold full; rw [if_pos h2], h1⟩)
      obtain ⟨vx, vp, hG⟩ := HG.out
      rw [HFull.out.2] at hG
      obtain ⟨ax, cx, hvx⟩ := row_sl hG.x
      obtain ⟨ap, cp, hvp⟩ := row_sl hG.t
      obtain ⟨nx, hnx⟩ : ∃ np, np = (gat l).ext.length := ⟨_, rfl⟩
      obtain ⟨np, hnp⟩ : ∃ np, np = (gat l).ports.length := ⟨_, rfl⟩
      rw [← hnp] at hvp
      rw [← hnx] at hvx
      subst hvp hvx
      obtain ⟨P, hP⟩ : ∃ P, P = (gat l).pages := ⟨_, rfl⟩
      obtain ⟨C, hC⟩ : ∃ C, C = (gat l).con := ⟨_, rfl⟩
      have hb := hG.blk
      rw [← hP, ← hC] at hb
      obtain ⟨d0, d1, d2, d3⟩ := hb.four
      obtain ⟨e0, e1, e2, e3⟩ := HR.out.four
      have f0 := HR.out.frozen 0
      have f1 := HR.out.frozen 1
      have f2 := HR.out.frozen 2
      have f3 := HR.out.frozen 3
      have hrl := HR.out.lt
      have hgl := hb.lt
      have HGG := Lib.hid hG
      have HPC := Lib.hid (And.intro hP hC)
      clear hlt hkn hG hb hP hC hnx hnp HG
      go_wp2_with fail
      refine bodyPost_ret (res_mf_tmp Try.results33 _ _ w.heap.size _ _ _ _ _ rfl rfl (HR.out.put4 _ _ _ _)) rfl ⟨.agg #[.int .u32 P, .slice ax nx cx, .slice ap np cp, .bool C], by rw [HFull.out.1]; rfl, ?_, below_put4 HB.out (Nat.le_refl _) _ _ _ _⟩
      rw [HFull.out.1, HPC.out.1, HPC.out.2]
      exact MfOwn.base (HGG.out.grown (grown_put4 _ w.heap.size _ _ _ _) (by omega) (by omega)).own (by omega)
end Go.Proofs.Ytmfebmiigkmkbaa
