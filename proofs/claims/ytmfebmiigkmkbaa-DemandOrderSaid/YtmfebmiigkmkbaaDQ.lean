/- The program's notes, Notes. -/
import Derived.Test.YtmfebmiigkmkbaaDP
import Derived.Test.YtmfebmiigkmkbaaDD
import Derived.Deep.AppendLies
set_option linter.unusedVariables false
set_option linter.unusedSimpArgs false
namespace Go.Proofs.Ytmfebmiigkmkbaa.Dm
open Oj
def nP (m : Mf) : List Nt := if 0 < m.pages then [⟨1, m.pages, 0⟩] else []
def nX (m : Mf) (k : Nat) : List Nt := nP m ++ (m.ext.take k).map (fun x => ⟨2, x.id, x.bl⟩)
def nT (m : Mf) (k : Nat) : List Nt := nX m m.ext.length ++ (m.ports.take k).map (fun p => ⟨3, p, 0⟩)
theorem nX_zero (m : Mf) : nX m 0 = nP m := by simp [nX]
theorem nT_zero (m : Mf) : nT m 0 = nX m m.ext.length := by simp [nT]
theorem nX_succ (m : Mf) (k : Nat) (h : k < m.ext.length) : nX m (k + 1) = nX m k ++ [⟨2, (m.ext.getD k Xt.nought).id, (m.ext.getD k Xt.nought).bl⟩] := by
  rw [nX, nX, List.take_succ_eq_append_getElem h, List.getD_eq_getElem?_getD, List.getElem?_eq_getElem h, List.map_append, List.append_assoc]
  rfl
theorem nT_succ (m : Mf) (k : Nat) (h : k < m.ports.length) : nT m (k + 1) = nT m k ++ [⟨3, m.ports.getD k 0, 0⟩] := by
  rw [nT, nT, List.take_succ_eq_append_getElem h, List.getD_eq_getElem?_getD, List.getElem?_eq_getElem h, List.map_append, List.append_assoc]
  rfl
def nC (b : Bool) : List Nt := if b = true then [⟨4, 0, 0⟩] else []
theorem nT_all (m : Mf) : notesOf m = nT m m.ports.length ++ nC m.con := by
  rw [nC, nT, nX, notesOf, nP, List.take_of_length_le (Nat.le_refl _), List.take_of_length_le (Nat.le_refl _)]
theorem nP_len (m : Mf) : (nP m).length ≤ 1 := by unfold nP; split <;> simp
theorem nX_len (m : Mf) (k : Nat) : (nX m k).length ≤ 1 + k := by
  have := nP_len m
  simp only [nX, List.length_append, List.length_map, List.length_take]
  omega
theorem nT_len (m : Mf) (k : Nat) : (nT m k).length ≤ 1 + m.ext.length + k := by
  have := nX_len m m.ext.length
  simp only [nT, List.length_append, List.length_map, List.length_take]
  omega
theorem notes_len (m : Mf) : (notesOf m).length ≤ 2 + m.ext.length + m.ports.length := by
  have := nT_len m m.ports.length
  rw [nT_all, List.length_append, nC]
  split <;> simp <;> omega
theorem up_len : ∀ (l : List Xt) (lo : Int), Up Xt.id l → (∀ x ∈ l, lo ≤ x.id ∧ x.id < 16) → l.length ≤ (16 - lo).toNat
  | [], _, _, _ => by simp
  | x :: r, lo, h, h2 => by
    have h3 := up_len r (x.id + 1) (List.Pairwise.of_cons h) (fun y hy => ⟨by have : x.id < y.id := List.rel_of_pairwise_cons h hy; omega, (h2 y (List.mem_cons_of_mem _ hy)).2⟩)
    have h4 := h2 x (List.mem_cons_self ..)
    rw [List.length_cons]
    omega
theorem ext16 {m : Mf} (h : Fine m) : m.ext.length ≤ 16 := by
  have := up_len m.ext 0 h.x0 (fun x hx => (h.x1 x hx).1)
  simpa using this
end Go.Proofs.Ytmfebmiigkmkbaa.Dm
namespace Go.Proofs.Ytmfebmiigkmkbaa
open Go Go.RowKit Oj Dm

/-- An own row of notes. -/
def OwnN (w : World) (B : Nat) (v : Value) (l : List Nt) : Prop := w.ownsRow B 28 3 v l.length (l.flatMap ntCells)
theorem nt_len (x : Nt) : (ntCells x).length = 3 := rfl
theorem OwnN.at {w : World} {B : Nat} {v : Value} {l : List Nt} (h : OwnN w B v l) : NotesAt w v l := slC_of_row (fun j _ => rfl) (by rw [flat_all' ntCells]; exact h)
theorem OwnN.add {w : World} {B : Nat} {v : Value} {l : List Nt} {k n m : Int} (h : w.ownsRow B 28 3 v (l.length + 1) (l.flatMap ntCells ++ [.int .u8 k, .int .u32 n, .int .u32 m])) : OwnN w B v (l ++ [⟨k, n, m⟩]) := by
  unfold OwnN
  rw [List.length_append, List.flatMap_append]
  exact h
theorem new3 (W : World) (a b c : Value) : ∀ j u, [a, b, c][j]? = some u → (W.alloc (.cells #[a, b, c] 28)).cell? ((⟨W.heap.size, 0, none⟩ : Addr).add j) = some u :=
  World.news_of_block (cs := #[a, b, c]) (t := 28) (fr := (0, 0)) (heap_alloc_new W _)
theorem one3 (a b c : Int) : ∀ u ∈ [Value.int .u8 a, .int .u32 b, .int .u32 c], u.oneCell' = true := by
  intro u hu; simp only [List.mem_cons, List.not_mem_nil, or_false] at hu; rcases hu with rfl | rfl | rfl <;> rfl
theorem app_low {w wr w1 : World} {v : Value} {n : Nat} {xs : List Value} {X : Obj} (hb : Below w.heap.size w wr) (hown : wr.ownsRow w.heap.size 28 3 v n xs) (hg : (wr.alloc X).grownBy w1 v.ownBlock) : Below w.heap.size w w1 :=
  (below_box hb X).grown hg (below_box hb X).size (fun k hk => (World.ownsRow.lt hown k hk).1)
theorem app_blk {wr w1 : World} {B g : Nat} {t : TypeId} {cs : List Value} {v : Value} {n : Nat} {xs : List Value} {X : Obj} (hb : Blk wr g t cs) (ht : t ≠ 28) (hown : wr.ownsRow B 28 3 v n xs) (hg : (wr.alloc X).grownBy w1 v.ownBlock) : Blk w1 g t cs :=
  (hb.alloc X).grown hg (fun he => row_block hb hown ht he.symm)

set_option maxHeartbeats 8000000 in
set_option maxRecDepth 100000 in
theorem notes_any (v : Value) (m : Mf) (w : World) (hA : MfAt w v m) (hf : mfFits m) (hx : m.ext.length ≤ 1048576) (hp : m.ports.length ≤ 1048576) : Calls Try.prog 30 #[v] w fun e w' => ∃ v', e = .returned v' ∧ OwnN w' w.heap.size v' (notesOf m) ∧ Below w.heap.size w w' := by
  obtain ⟨vx, vp, rfl, ⟨ax, cx, hvx, hX⟩, ⟨ap, cp, hvp, hP⟩⟩ := hA
  obtain ⟨i0, hi, hz0, hz1, hz2⟩ := info_parts infoNote
  have HI := Lib.hid (And.intro hi (And.intro hz0 (And.intro hz1 hz2)))
  obtain ⟨nx, hnx⟩ : ∃ n, n = m.ext.length := ⟨_, rfl⟩
  obtain ⟨np, hnp⟩ : ∃ n, n = m.ports.length := ⟨_, rfl⟩
  obtain ⟨p, hp'⟩ : ∃ p, p = m.pages := ⟨_, rfl⟩
  obtain ⟨cn, hcn⟩ : ∃ p, p = m.con := ⟨_, rfl⟩
  rw [← hnx] at hvx hX hx
  rw [← hnp] at hvp hP hp
  have f0 : 0 ≤ p := by rw [hp']; exact hf.1.1
  have f1 : p < 4294967296 := by rw [hp']; exact hf.1.2
  unfold mfV
  rw [← hp', ← hcn]
  subst hvx hvp
  have hxi : (nx : Int) ≤ 1048576 := by omega
  have hpi : (np : Int) ≤ 1048576 := by omega
  have HB0 := Lib.hid (below_new1 w (.cells #[.int .u32 p, .slice ax nx cx, .slice ap np cp, .bool cn] 26))
  have HK0 := Lib.hid (Blk.new w 26 [.int .u32 p, .slice ax nx cx, .slice ap np cp, .bool cn])
  have HX := Lib.hid hX
  have HP := Lib.hid hP
  have HF := Lib.hid hf
  have HNx := Lib.hid hnx
  have HNp := Lib.hid hnp
  have HPg := Lib.hid hp'
  have HCn := Lib.hid hcn
  clear hi hz0 hz1 hz2 hnx hnp hp' hcn hX hP hf hx hp
  go_enter Try.func30, Try.ntmps30
  have HS : Hid (∀ vv wx, OwnN wx w.heap.size vv (nX m 0) → ∃ a n c, vv = .slice a n c) := Lib.hid fun vv wx h => by obtain ⟨a, c, h⟩ := row_sl h; exact ⟨a, _, c, h⟩
  go_upto_if 10 with (fail)
  go_cut [3] (fun t3 wx => ∃ a n c, t3 = .slice a n c ∧ Hid (OwnN wx w.heap.size (.slice a n c) (nX m 0)) ∧ Hid (Below w.heap.size w wx) ∧ Hid (Blk wx w.heap.size 26 [.int .u32 p, .slice ax nx cx, .slice ap np cp, .bool cn]))
  case first =>
    by_cases hpg : 0 < p
    · have HE : Hid (nX m 0 = [] ++ [⟨1, p, 0⟩]) := Lib.hid (by rw [nX_zero, nP, ← HPg.out, if_pos hpg]; rfl)
      have HBx : Hid (w.heap.size ≤ ((w.alloc (.cells #[.int .u32 p, .slice ax nx cx, .slice ap np cp, .bool cn] 26)).alloc (.cells #[.int .u8 1, .int .u32 p, .int .u32 0] 28)).heap.size) := Lib.hid (by simp; omega)
      obtain ⟨wa, hwa⟩ : ∃ wa, wa = w.alloc (.cells #[.int .u32 p, .slice ax nx cx, .slice ap np cp, .bool cn] 26) := ⟨_, rfl⟩
      have b0 : wa.cell? ⟨w.heap.size, 0, none⟩ = some (.int .u32 p) := by rw [hwa]; exact HK0.out.cell 0
      rw [← hwa] at HB0 HK0 HBx ⊢
      clear hwa
      have HKM : Hid (0 + 1 ≤ maxLen ∧ (0 + 1) * 12 ≤ 140737488355328) := Lib.hid (by unfold maxLen; omega)
      go_wp2_with (at_builtin; (refine wpList_append_own _ rfl _ _ 37 rfl w.heap.size 28 i0 (.agg #[.int .u8 0, .int .u32 0, .int .u32 0]) 3 12 Try.underlying37 HI.out.1 HI.out.2.1 HI.out.2.2.1 HI.out.2.2.2 rfl (by decide) (.slice none 0 0) 0 [] rfl (World.ownsRow_nil _ _ _ _) ⟨wa.heap.size, 0, none⟩ 1 1 [.int .u8 1, .int .u32 p, .int .u32 0] rfl rfl (new3 _ _ _ _) (one3 _ _ _) HKM.out.1 HKM.out.2 HBx.out ?_); intro v1 w1 h6 h7 _)
      have HO : Hid (OwnN w1 w.heap.size v1 (nX m 0)) := Lib.hid (by rw [HE.out]; exact OwnN.add (l := []) h6)
      have HB1 : Hid (Below w.heap.size w w1) := Lib.hid ((below_box HB0.out _).grown h7 (below_box HB0.out _).size (fun k hk => by cases hk))
      have HK1 : Hid (Blk w1 w.heap.size 26 [.int .u32 p, .slice ax nx cx, .slice ap np cp, .bool cn]) := Lib.hid ((HK0.out.alloc _).grown h7 (by simp [Value.ownBlock]))
      obtain ⟨a1, c1, rfl⟩ := row_sl h6
      clear h6 h7 b0
      go_wp2_with fail
      go_meet
      exact ⟨_, _, _, rfl, HO, HB1, HK1⟩
    · have hpg0 : p = 0 := by omega
      have HE : Hid (nX m 0 = []) := Lib.hid (by rw [nX_zero, nP, ← HPg.out, if_neg hpg])
      have HO : Hid (OwnN (w.alloc (.cells #[.int .u32 p, .slice ax nx cx, .slice ap np cp, .bool cn] 26)) w.heap.size (.slice none 0 0) (nX m 0)) := Lib.hid (by rw [HE.out]; exact World.ownsRow_nil _ _ _ _)
      clear hpg0
      go_wp2_with fail
      go_meet
      exact ⟨_, _, _, rfl, HO, HB0, HK0⟩
  case rest =>
    clear HB0 HK0
    obtain ⟨a3, n3, c3, rfl, HO, HB, HK⟩ := hcut
    have b1 : wc.cell? ⟨w.heap.size, 1, none⟩ = some (.slice ax nx cx) := HK.out.cell 1
    go_wp2_with fail
    clear b1
    go_loopw [3, 20] (fun t3 i wr => ∃ (k : Nat) (a : Option Addr) (n c : Nat), (k : Int) ≤ nx ∧ i = .int .i64 k ∧ t3 = .slice a n c ∧ Hid (OwnN wr w.heap.size (.slice a n c) (nX m k)) ∧ Hid (Below w.heap.size w wr) ∧ Hid (Blk wr w.heap.size 26 [.int .u32 p, .slice ax nx cx, .slice ap np cp, .bool cn])) (fun _ i _ => nx - (intOf i).toNat)
    case atStart => exact ⟨0, a3, n3, c3, by omega, rfl, rfl, HO, HB, HK⟩
    case round =>
      clear HO HB HK
      obtain ⟨k, a4, n4, c4, hk, rfl, rfl, HO, HB, HK⟩ := hrel
      by_cases hlt : k < nx
      · have hd : decide (k < nx) = true := decide_eq_true hlt
        obtain ⟨b, o, rfl, hbl, hcl⟩ := HX.out (by omega)
        obtain ⟨c0, c1⟩ := ((hcl k hlt).below HB.out hbl).xt
        have hfx := HF.out.2.2.2.1 k (by rw [← HNx.out]; exact hlt)
        have hbr : b < wr.heap.size := Nat.lt_of_lt_of_le hbl HB.out.size
        have HE : Hid (nX m (k + 1) = nX m k ++ [⟨2, (m.ext.getD k Xt.nought).id, (m.ext.getD k Xt.nought).bl⟩]) := Lib.hid (nX_succ m k (by rw [← HNx.out]; exact hlt))
        obtain ⟨i, hi⟩ : ∃ i, i = (m.ext.getD k Xt.nought).id := ⟨_, rfl⟩
        obtain ⟨bb, hbb⟩ : ∃ i, i = (m.ext.getD k Xt.nought).bl := ⟨_, rfl⟩
        rw [← hi, ← hbb] at HE
        rw [← hi] at c0
        rw [← hbb] at c1
        have HBa := Lib.hid (below_box HB.out (.cells #[.int .u32 i, .int .u32 bb] 50))
        have HKa := Lib.hid (HK.out.alloc (.cells #[.int .u32 i, .int .u32 bb] 50))
        have HZa := Lib.hid (Blk.new wr 50 [.int .u32 i, .int .u32 bb])
        have HOa : Hid (OwnN (wr.alloc (.cells #[.int .u32 i, .int .u32 bb] 50)) w.heap.size (.slice a4 n4 c4) (nX m k)) := Lib.hid (row_below HO.out (below_new1 wr _))
        have hlen := nX_len m k
        have HKM : Hid ((nX m k).length + 1 ≤ maxLen ∧ ((nX m k).length + 1) * 12 ≤ 140737488355328) := Lib.hid (by unfold maxLen; omega)
        have HNL : Hid (n4 = (nX m k).length) := Lib.hid (by obtain ⟨_, _, h⟩ := row_sl HO.out; injection h)
        clear hcl hfx hi hbb hlen
        go_upto_region 7 with (fail)
        obtain ⟨wa, hwa⟩ : ∃ wa, wa = wr.alloc (.cells #[.int .u32 i, .int .u32 bb] 50) := ⟨_, rfl⟩
        obtain ⟨ge, hge⟩ : ∃ ge, ge = wr.heap.size := ⟨_, rfl⟩
        rw [← hge] at HZa
        rw [← hwa] at HBa HKa HZa HOa ⊢
        rw [← hge]
        have z0 : wa.cell? ⟨ge, 0, none⟩ = some (.int .u32 i) := HZa.out.cell 0
        have z1 : wa.cell? ⟨ge, 1, none⟩ = some (.int .u32 bb) := HZa.out.cell 1
        have HBx : Hid (w.heap.size ≤ (wa.alloc (.cells #[.int .u8 2, .int .u32 i, .int .u32 bb] 28)).heap.size) := Lib.hid (below_box HBa.out _).size
        clear hwa hge HB HK HO HZa c0 c1
        go_upto_region 8 with (at_builtin; (refine wpList_append_own _ rfl _ _ 37 rfl w.heap.size 28 i0 (.agg #[.int .u8 0, .int .u32 0, .int .u32 0]) 3 12 Try.underlying37 HI.out.1 HI.out.2.1 HI.out.2.2.1 HI.out.2.2.2 rfl (by decide) (.slice a4 n4 c4) (nX m k).length _ rfl (World.ownsRow.alloc HOa.out _) ⟨wa.heap.size, 0, none⟩ 1 1 [.int .u8 2, .int .u32 i, .int .u32 bb] rfl rfl (new3 _ _ _ _) (one3 _ _ _) HKM.out.1 HKM.out.2 HBx.out ?_); intro v1 w1 h6 h7 _)
        have HO1 : Hid (OwnN w1 w.heap.size v1 (nX m (k + 1))) := Lib.hid (by rw [HE.out]; exact OwnN.add h6)
        have HB1 : Hid (Below w.heap.size w w1) := Lib.hid (app_low HBa.out HOa.out h7)
        have HK1 := Lib.hid (app_blk HKa.out (by decide) HOa.out h7)
        obtain ⟨a1, c1, rfl⟩ := row_sl h6
        clear h6 h7 z0 z1
        go_wp2_with fail
        go_roundw
        case rel => exact ⟨k + 1, _, _, _, by omega, by go_num, rfl, HO1, HB1, HK1⟩
        case measure => simp [intOf]; omega
      · have hd : decide (k < nx) = false := decide_eq_false hlt
        have HO5 : Hid (OwnN wr w.heap.size (.slice a4 n4 c4) (nT m 0)) := Lib.hid (by
          have h := HO.out
          rw [nT_zero, ← HNx.out, show nx = k by omega]
          exact h)
        have b2 : wr.cell? ⟨w.heap.size, 2, none⟩ = some (.slice ap np cp) := HK.out.cell 2
        clear hlt HO
        go_wp2_with fail
        clear b2
        go_loopw [3, 36] (fun t3 i wr => ∃ (k : Nat) (a : Option Addr) (n c : Nat), (k : Int) ≤ np ∧ i = .int .i64 k ∧ t3 = .slice a n c ∧ Hid (OwnN wr w.heap.size (.slice a n c) (nT m k)) ∧ Hid (Below w.heap.size w wr) ∧ Hid (Blk wr w.heap.size 26 [.int .u32 p, .slice ax nx cx, .slice ap np cp, .bool cn])) (fun _ i _ => np - (intOf i).toNat)
        case atStart => exact ⟨0, a4, n4, c4, by omega, rfl, rfl, HO5, HB, HK⟩
        case round =>
          clear HO5 HB HK
          obtain ⟨k, a5, n5, c5, hk, rfl, rfl, HO, HB, HK⟩ := hrel
          by_cases hlt : k < np
          · have hd : decide (k < np) = true := decide_eq_true hlt
            obtain ⟨b, o, rfl, hbl, hcl⟩ := HP.out (by omega)
            have c0 := ((hcl k hlt).below HB.out hbl).pt
            rw [Nat.mul_one] at c0
            have hfx := HF.out.2.2.2.2 k (by rw [← HNp.out]; exact hlt)
            have hbr : b < wr.heap.size := Nat.lt_of_lt_of_le hbl HB.out.size
            have HE : Hid (nT m (k + 1) = nT m k ++ [⟨3, m.ports.getD k 0, 0⟩]) := Lib.hid (nT_succ m k (by rw [← HNp.out]; exact hlt))
            obtain ⟨q, hq⟩ : ∃ q, q = m.ports.getD k 0 := ⟨_, rfl⟩
            rw [← hq] at HE c0 hfx
            obtain ⟨q0, q1⟩ := hfx
            have hlen := nT_len m k
            have HKM : Hid ((nT m k).length + 1 ≤ maxLen ∧ ((nT m k).length + 1) * 12 ≤ 140737488355328) := Lib.hid (by have := HNx.out; unfold maxLen; omega)
            have HNL : Hid (n5 = (nT m k).length) := Lib.hid (by obtain ⟨_, _, h⟩ := row_sl HO.out; injection h)
            have HBx : Hid (w.heap.size ≤ (wr.alloc (.cells #[.int .u8 3, .int .u32 q, .int .u32 0] 28)).heap.size) := Lib.hid (below_box HB.out _).size
            clear hcl hq hlen
            go_upto_region 13 with (at_builtin; (refine wpList_append_own _ rfl _ _ 37 rfl w.heap.size 28 i0 (.agg #[.int .u8 0, .int .u32 0, .int .u32 0]) 3 12 Try.underlying37 HI.out.1 HI.out.2.1 HI.out.2.2.1 HI.out.2.2.2 rfl (by decide) (.slice a5 n5 c5) (nT m k).length _ rfl (World.ownsRow.alloc HO.out _) ⟨wr.heap.size, 0, none⟩ 1 1 [.int .u8 3, .int .u32 q, .int .u32 0] rfl rfl (new3 _ _ _ _) (one3 _ _ _) HKM.out.1 HKM.out.2 HBx.out ?_); intro v1 w1 h6 h7 _)
            have HO1 : Hid (OwnN w1 w.heap.size v1 (nT m (k + 1))) := Lib.hid (by rw [HE.out]; exact OwnN.add h6)
            have HB1 : Hid (Below w.heap.size w w1) := Lib.hid (app_low HB.out HO.out h7)
            have HK1 := Lib.hid (app_blk HK.out (by decide) HO.out h7)
            obtain ⟨a1, c1, rfl⟩ := row_sl h6
            clear h6 h7 c0
            go_wp2_with fail
            go_roundw
            case rel => exact ⟨k + 1, _, _, _, by omega, by go_num, rfl, HO1, HB1, HK1⟩
            case measure => simp [intOf]; omega
          · have hd : decide (k < np) = false := decide_eq_false hlt
            have HO5 : Hid (OwnN wr w.heap.size (.slice a5 n5 c5) (nT m m.ports.length)) := Lib.hid (by
              have h := HO.out
              rw [← HNp.out, show np = k by omega]
              exact h)
            have b3 : wr.cell? ⟨w.heap.size, 3, none⟩ = some (.bool cn) := HK.out.cell 3
            obtain ⟨L, hL⟩ : ∃ L, L = nT m m.ports.length := ⟨_, rfl⟩
            have HLL : Hid (notesOf m = L ++ nC cn ∧ L.length ≤ 3145728) := Lib.hid ⟨by rw [nT_all, hL, HCn.out], by
              have h1 := nT_len m m.ports.length
              rw [← HNx.out, ← HNp.out] at h1
              rw [hL, ← HNp.out]
              omega⟩
            rw [← hL] at HO5
            clear hlt HO hL
            cases cn with
            | false =>
              go_wp2_with fail
              go_ret
              exact ⟨_, rfl, by rw [HLL.out.1, show nC false = [] from rfl, List.append_nil]; exact HO5.out, HB.out⟩
            | true =>
              have HKM : Hid (L.length + 1 ≤ maxLen ∧ (L.length + 1) * 12 ≤ 140737488355328) := Lib.hid (by have := HLL.out.2; unfold maxLen; omega)
              have HNL : Hid (n5 = L.length) := Lib.hid (by obtain ⟨_, _, h⟩ := row_sl HO5.out; injection h)
              have HBx : Hid (w.heap.size ≤ (wr.alloc (.cells #[.int .u8 4, .int .u32 0, .int .u32 0] 28)).heap.size) := Lib.hid (below_box HB.out _).size
              go_wp2_with (at_builtin; (refine wpList_append_own _ rfl _ _ 37 rfl w.heap.size 28 i0 (.agg #[.int .u8 0, .int .u32 0, .int .u32 0]) 3 12 Try.underlying37 HI.out.1 HI.out.2.1 HI.out.2.2.1 HI.out.2.2.2 rfl (by decide) (.slice a5 n5 c5) L.length _ rfl (World.ownsRow.alloc HO5.out _) ⟨wr.heap.size, 0, none⟩ 1 1 [.int .u8 4, .int .u32 0, .int .u32 0] rfl rfl (new3 _ _ _ _) (one3 _ _ _) HKM.out.1 HKM.out.2 HBx.out ?_); intro v1 w1 h6 h7 _)
              have HO1 : Hid (OwnN w1 w.heap.size v1 (L ++ [⟨4, 0, 0⟩])) := Lib.hid (OwnN.add h6)
              have HB1 : Hid (Below w.heap.size w w1) := Lib.hid (app_low HB.out HO5.out h7)
              obtain ⟨a1, c1, rfl⟩ := row_sl h6
              clear h6 h7
              go_wp2_with fail
              go_ret
              exact ⟨_, rfl, by rw [HLL.out.1]; exact HO1.out, HB1.out⟩

set_option maxHeartbeats 4000000 in
set_option maxRecDepth 100000 in
theorem dnotes_any (v : Value) (m : Mf) (w : World) (hA : MfAt w v m) (hf : mfFits m) : Calls Try.prog 18 #[v] w fun e w' => ∃ v', e = .returned v' ∧ OwnN w' w.heap.size v' (notesR m) ∧ Below w.heap.size w w' := by
  have HC := Lib.hid (fun W (hq : Below w.heap.size w W) => check_any v m hf W (hA.below hq))
  have HNt := Lib.hid (fun (hok : mfOk m = true) W (hq : Below w.heap.size w W) => notes_any v m W (hA.below hq) hf (by
    have h1 := (hf.fine hok).1
    have h2 := ext16 h1
    omega) (by have h1 := (hf.fine hok).2; omega))
  obtain ⟨P, ax, nx, cx, ap, np, cp, C, hv⟩ := hA.open
  subst hv
  obtain ⟨b, hb⟩ : ∃ b, b = mfOk m := ⟨_, rfl⟩
  have HBm : Hid (mfOk m = b) := Lib.hid hb.symm
  rw [← hb] at HC
  have HB0 := Lib.hid (below_new1 w (.cells #[.int .u32 P, .slice ax nx cx, .slice ap np cp, .bool C] 26))
  have HK0 := Lib.hid (Blk.new w 26 [.int .u32 P, .slice ax nx cx, .slice ap np cp, .bool C])
  clear hb hA hf
  cases b with
  | true =>
    rw [okI_t] at HC
    go_enter Try.func18, Try.ntmps18
    go_wp2_with fail
    refine (HC.out _ HB0.out).mono ?_; rintro e w1 ⟨rfl, q1⟩
    have HB1 := Lib.hid (below_call HB0.out q1)
    have hk1 := HK0.out.call q1
    obtain ⟨d0, d1, d2, d3⟩ := hk1.four
    clear q1 hk1
    go_wp2_with fail
    refine (HNt.out HBm.out _ HB1.out).mono ?_; rintro e w2 ⟨v', rfl, hO, q2⟩
    have HO : Hid (OwnN w2 w.heap.size v' (notesOf m)) := Lib.hid (row_base hO HB1.out.size)
    have HB2 := Lib.hid (below_call HB1.out q2)
    obtain ⟨a1, c1, rfl⟩ := row_sl hO
    clear q2 hO d0 d1 d2 d3
    go_wp2_with fail
    go_ret
    exact ⟨_, rfl, by unfold notesR; rw [if_pos HBm.out]; exact HO.out, HB2.out⟩
  | false =>
    rw [okI_f] at HC
    go_enter Try.func18, Try.ntmps18
    go_wp2_with fail
    refine (HC.out _ HB0.out).mono ?_; rintro e w1 ⟨rfl, q1⟩
    have HB1 := Lib.hid (below_call HB0.out q1)
    clear q1
    go_wp2_with fail
    go_ret
    exact ⟨_, rfl, by unfold notesR; rw [if_neg (by rw [HBm.out]; decide)]; exact World.ownsRow_nil _ _ _ _, HB1.out⟩
end Go.Proofs.Ytmfebmiigkmkbaa
