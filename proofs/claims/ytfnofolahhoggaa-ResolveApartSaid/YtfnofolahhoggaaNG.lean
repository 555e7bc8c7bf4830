/- The program's find, isObject; Check, Sym, Note, Find. -/
import Derived.Test.YtfnofolahhoggaaNF
set_option linter.unusedVariables false
set_option linter.unusedSimpArgs false
namespace Go.Proofs.Ytfnofolahhoggaa
open Go Go.RowKit Oj

theorem str_eq (a b : ByteArray) : (a.toList == b.toList) = decide (by' a = by' b) := by
  rw [Bool.eq_iff_iff, beq_iff_eq, decide_eq_true_eq, ByteArray.toList_eq, ByteArray.toList_eq]
  rfl
def findV : Option Nat → Value
  | none => .tuple #[.int .i64 0, .bool false]
  | some i => .tuple #[.int .i64 (i : Int), .bool true]

set_option maxHeartbeats 4000000 in
set_option maxRecDepth 100000 in
theorem ofind_any (v : Value) (l : List Sy) (nm : ByteArray) (w : World) (hA : SymsAt w v l) (hl : l.length * 88 ≤ 140737488355328) :
    Calls Try.prog 48 #[v, .string nm] w fun e w' => e = .returned (findV (findS l (by' nm))) ∧ w = w' := by
  obtain ⟨R, N, ⟨a, c, rfl, h2⟩, _⟩ := hA
  obtain ⟨n, hn⟩ : ∃ n, n = l.length := ⟨_, rfl⟩
  have hni : (n : Int) ≤ 1599289640402 := by omega
  rw [← hn] at h2 ⊢
  have H2 := Lib.hid h2
  have HN := Lib.hid hn
  clear hn h2 hl
  go_enter Try.func48, Try.ntmps48
  go_wp2_with fail
  go_loop [9] (fun i => ∃ k : Nat, (k : Int) ≤ n ∧ i = .int .i64 k ∧ Hid (∀ j, j < k → (l.getD j Sy.nought).name ≠ by' nm)) (fun i => n - (intOf i).toNat)
  case atStart => exact ⟨0, by omega, rfl, Lib.hid fun j hj => absurd hj (by omega)⟩
  case round =>
    obtain ⟨k, hk, rfl, HK⟩ := hrel
    by_cases hlt : k < n
    · obtain ⟨b, o, rfl, hbl, hcl⟩ := H2.out (by omega)
      have c0 := (hcl k hlt).sy.1
      obtain ⟨U, hU⟩ : ∃ U, U = tx (l.getD k Sy.nought).name := ⟨_, rfl⟩
      rw [← hU] at c0
      have hbU : by' U = (l.getD k Sy.nought).name := by rw [hU, by_tx]
      have hd : decide (k < n) = true := decide_eq_true hlt
      have hs := str_eq U nm
      rw [hbU] at hs
      by_cases he : (l.getD k Sy.nought).name = by' nm
      · have HR : Hid (findS l (by' nm) = some k) := Lib.hid (find_at (by rw [← HN.out]; exact hlt) he HK.out)
        rw [decide_eq_true he] at hs
        clear hU hbU he HK hcl
        go_wp2_with fail
        go_ret2
        exact ⟨by rw [HR.out]; rfl, rfl⟩
      · have HK2 : Hid (∀ j, j < k + 1 → (l.getD j Sy.nought).name ≠ by' nm) := Lib.hid fun j hj => by
          by_cases hx : j = k
          · subst hx; exact he
          · exact HK.out j (by omega)
        rw [decide_eq_false he] at hs
        clear hU hbU he HK hcl
        go_wp2_with fail
        go_round
        case rel => exact ⟨k + 1, by omega, by go_num, HK2⟩
        case measure => simp [intOf]; omega
    · have hd : decide (k < n) = false := decide_eq_false hlt
      have HR : Hid (findS l (by' nm) = none) := Lib.hid (find_none fun j hj => HK.out j (by rw [← HN.out] at hj; omega))
      clear hlt HK
      go_wp2
      go_ret2
      exact ⟨by rw [HR.out]; rfl, rfl⟩

set_option maxHeartbeats 8000000 in
set_option maxRecDepth 100000 in
theorem isobject_any (v : Value) (x : Ob) (hf : obFits x) (w : World) (hA : ObAt w v x) : Calls Try.prog 43 #[v] w fun e w' => e = .returned (.bool (obOk x)) ∧ Below w.heap.size w w' := by
  obtain ⟨nm, l⟩ := x
  obtain ⟨hf1, hf2, hf3⟩ := hf
  obtain ⟨vs, rfl, hS⟩ := hA
  simp only at hf1 hf2 hf3 hS ⊢
  have H1 := Lib.hid (fun W => isname_any (tx nm) (by rw [tx_size]; exact hf1) W)
  rw [by_tx] at H1
  obtain ⟨p1, e1⟩ : ∃ p, p = nameOk nm := ⟨_, rfl⟩
  have HS := Lib.hid (fun W (hq : Below w.heap.size w W) => hS.below hq)
  have HO := Lib.hid (fun (v : Value) (U : ByteArray) W (hq : SymsAt W v l) => ofind_any v l U W hq hf2)
  obtain ⟨R, N, ⟨a, c, rfl, h2⟩, h3⟩ := hS
  obtain ⟨n, hn⟩ : ∃ n, n = l.length := ⟨_, rfl⟩
  obtain ⟨M, hM⟩ : ∃ M, M = tx nm := ⟨_, rfl⟩
  rw [← e1, ← hM] at H1
  rw [← hn] at HS h2 ⊢
  rw [← hM]
  have HN := Lib.hid hn
  have H2 := Lib.hid h2
  have H3 := Lib.hid h3
  have HF := Lib.hid hf3
  obtain ⟨E, hE⟩ : ∃ E, E = obOk ⟨nm, l⟩ := ⟨_, rfl⟩
  have HE : Hid (E = (p1 && decide (n ≤ 64) && symsOk l)) := Lib.hid (by rw [hE, e1, hn]; rfl)
  rw [← hE]
  have hni : (n : Int) ≤ 1599289640402 := by omega
  have HB0 := Lib.hid (below_new1 w (.cells #[.string M, .slice a n c] 43))
  have HX0 := Lib.hid (Blk.new w 43 [.string M, .slice a n c])
  clear e1 hn hM h2 h3 hf1 hf2 hf3 hE
  go_enter Try.func43, Try.ntmps43
  go_wp2_with fail
  refine (H1.out _).mono ?_; rintro e w1 ⟨rfl, q1⟩
  have HB1 := Lib.hid (below_call HB0.out q1)
  have HX1 := Lib.hid (HX0.out.call q1)
  clear q1
  cases p1
  · have hr : E = false := by rw [HE.out]; simp
    subst hr
    go_wp2_with fail
    go_ret
    exact ⟨rfl, HB1.out⟩
  have b0 : w1.cell? ⟨w.heap.size, 0, none⟩ = some (.string M) := HX1.out.cell 0
  have b1 : w1.cell? ⟨w.heap.size, 1, none⟩ = some (.slice a n c) := HX1.out.cell 1
  by_cases hb : n ≤ 64
  · have hn64 : (n : Int) ≤ 64 := by omega
    have HE2 : Hid (E = symsOk l) := Lib.hid (by rw [HE.out, decide_eq_true hb]; rfl)
    clear hb
    go_wp2_with fail
    go_loopw [20] (fun i wr => ∃ k : Nat, (k : Int) ≤ n ∧ i = .int .i64 k ∧ Hid (∀ j, j < k → (symOk (l.getD j Sy.nought) && apartOk l j) = true) ∧ Hid (Below w.heap.size w wr) ∧ Hid (Blk wr w.heap.size 43 [.string M, .slice a n c])) (fun i _ => n - (intOf i).toNat)
    case atStart => exact ⟨0, by omega, rfl, Lib.hid fun j hj => absurd hj (by omega), HB1, HX1⟩
    case round =>
      clear b0 b1 HB1 HX1
      obtain ⟨k, hk, rfl, HK, HB, HX⟩ := hrel
      by_cases hlt : k < n
      · obtain ⟨b, o, rfl, hbl, hcl⟩ := H2.out (by omega)
        obtain ⟨s, hs⟩ : ∃ s, s = l.getD k Sy.nought := ⟨_, rfl⟩
        have hkl : k < l.length := by rw [← HN.out]; exact hlt
        have hL := ((hcl k hlt).below HB.out hbl)
        obtain ⟨hr0, hn0⟩ := H3.out k hkl
        have hfs := HF.out k hkl
        rw [← hs] at hL hr0 hn0 hfs
        obtain ⟨c0, c1, c2, c3, c4, c5, c6⟩ := hL.sy
        have hbr : b < wr.heap.size := Nat.lt_of_lt_of_le hbl HB.out.size
        have HI := Lib.hid (fun W (hq : Below w.heap.size w W) => issym_any s hfs _ W ((SymAt.mk hr0 hn0).below hq))
        obtain ⟨p, hp⟩ : ∃ p, p = symOk s := ⟨_, rfl⟩
        rw [← hp] at HI
        obtain ⟨i, hi, hik⟩ := find_own hkl
        have hap := find_apart hi hik
        have HFD := Lib.hid (fun W (hq : Below w.heap.size w W) => HO.out _ (tx s.name) W (HS.out W hq))
        rw [by_tx, hs, hi, ← hs] at HFD
        have HFD := Lib.hid (fun W hq => show Calls Try.prog 48 #[_, .string (tx s.name)] W fun e w' => e = .returned (.tuple #[.int .i64 (i : Int), .bool true]) ∧ W = w' from HFD.out W hq)
        obtain ⟨q, hq⟩ : ∃ q, q = apartOk l k := ⟨_, rfl⟩
        rw [← hq] at hap
        have HP : Hid ((symOk (l.getD k Sy.nought) && apartOk l k) = (p && q)) := Lib.hid (by rw [← hs, ← hp, ← hq])
        obtain ⟨u0, g0⟩ : ∃ u, u = tx s.name := ⟨_, rfl⟩
        obtain ⟨u1, g1⟩ : ∃ u, u = s.bind := ⟨_, rfl⟩
        obtain ⟨u2, g2⟩ : ∃ u, u = s.kind := ⟨_, rfl⟩
        obtain ⟨u3, g3⟩ : ∃ u, u = s.size := ⟨_, rfl⟩
        obtain ⟨u4, g4⟩ : ∃ u, u = tx s.bytes := ⟨_, rfl⟩
        obtain ⟨u5, g5⟩ : ∃ u, u = R k := ⟨_, rfl⟩
        obtain ⟨u6, g6⟩ : ∃ u, u = N k := ⟨_, rfl⟩
        obtain ⟨ra, rc, hrv, _⟩ := hr0
        obtain ⟨na, nc, hnv, _⟩ := hn0
        rw [← g0, ← g1, ← g2, ← g3, ← g4, ← g5, ← g6] at HI
        rw [← g0] at HFD c0
        rw [← g1] at c1
        rw [← g2] at c2
        rw [← g3] at c3
        rw [← g4] at c4
        rw [← g5] at c5 hrv
        rw [← g6] at c6 hnv
        obtain ⟨rn, hrn⟩ : ∃ x, x = s.rels.length := ⟨_, rfl⟩
        obtain ⟨nn, hnn⟩ : ∃ x, x = s.notes.length := ⟨_, rfl⟩
        rw [← hrn] at hrv
        rw [← hnn] at hnv
        have hd : decide (k < n) = true := decide_eq_true hlt
        clear hcl hL hfs hs hp hi hq g0 g1 g2 g3 g4 g5 g6 hrn hnn
        subst hrv hnv
        have HBa := Lib.hid (below_box HB.out (.cells #[.string u0, .int .u8 u1, .int .u8 u2, .int .u32 u3, .string u4, .slice ra rn rc, .slice na nn nc] 50))
        have HXa := Lib.hid (HX.out.alloc (.cells #[.string u0, .int .u8 u1, .int .u8 u2, .int .u32 u3, .string u4, .slice ra rn rc, .slice na nn nc] 50))
        have HYa := Lib.hid (Blk.new wr 50 [.string u0, .int .u8 u1, .int .u8 u2, .int .u32 u3, .string u4, .slice ra rn rc, .slice na nn nc])
        go_wp2_with fail
        refine (HI.out _ HBa.out).mono ?_; rintro e w2 ⟨rfl, q2⟩
        have HB2 := Lib.hid (below_call HBa.out q2)
        have HX2 := Lib.hid (HXa.out.call q2)
        have HY2 := Lib.hid (HYa.out.call q2)
        clear q2 HBa HXa HYa
        cases p
        · have hr : E = false := by
            rw [HE2.out]
            unfold symsOk
            exact allN_false (k := k) hkl (by rw [HP.out]; rfl)
          subst hr
          go_wp2_with fail
          go_ret
          exact ⟨rfl, HB2.out⟩
        have b1 : w2.cell? ⟨w.heap.size, 1, none⟩ = some (.slice (some ⟨b, o, none⟩) n c) := HX2.out.cell 1
        have b2 : w2.cell? ⟨wr.heap.size, 0, none⟩ = some (.string u0) := HY2.out.cell 0
        cases q
        · have hne : ((i : Int) != (k : Int)) = true := by
            have := of_decide_eq_false hap
            rw [bne_iff_ne]; omega
          have hr : E = false := by
            rw [HE2.out]
            unfold symsOk
            exact allN_false (k := k) hkl (by rw [HP.out]; rfl)
          subst hr
          clear hap
          go_wp2_with fail
          refine (HFD.out _ HB2.out).mono ?_; rintro e w3 ⟨rfl, rfl⟩
          go_wp2_with fail
          go_ret
          exact ⟨rfl, HB2.out⟩
        · have hne : ((i : Int) != (k : Int)) = false := by
            have := of_decide_eq_true hap
            rw [bne_eq_false_iff_eq]; omega
          have HK2 : Hid (∀ j, j < k + 1 → (symOk (l.getD j Sy.nought) && apartOk l j) = true) := Lib.hid fun j hj => by
            by_cases hx : j = k
            · subst hx; rw [HP.out]; rfl
            · exact HK.out j (by omega)
          clear hap HK HP
          go_wp2_with fail
          refine (HFD.out _ HB2.out).mono ?_; rintro e w3 ⟨rfl, rfl⟩
          go_wp2_with fail
          clear b1 b2
          go_roundw
          case rel => exact ⟨k + 1, by omega, by go_num, HK2, HB2, HX2⟩
          case measure => simp [intOf]; omega
      · have hd : decide (k < n) = false := decide_eq_false hlt
        have hr : E = true := by
          rw [HE2.out]
          unfold symsOk
          exact allN_true fun j hj => HK.out j (by rw [← HN.out] at hj; omega)
        subst hr
        clear hlt HK
        go_wp2
        go_ret
        exact ⟨rfl, HB.out⟩
  · have hn64 : (64 : Int) < (n : Int) := by omega
    have hr : E = false := by rw [HE.out, decide_eq_false hb]; rfl
    subst hr
    clear hb
    go_wp2_with fail
    go_ret
    exact ⟨rfl, HB1.out⟩

end Go.Proofs.Ytfnofolahhoggaa
