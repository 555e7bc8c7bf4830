/- SpacePlays: which pages there are, and what is answered, whatever is done. -/
import Derived.Test.YtfickpjecehboaaEK
import Derived.Test.YtfickpjecehboaaYC
set_option linter.unusedVariables false
namespace Go.Proofs.Ytfickpjecehboaa
open Go.RowKit Go.Maps

/-- A space, and the document's, that have the same pages, both from block G on. -/
def Both (w0 : World) (G b g k : Nat) (w : World) : Prop := (∃ e A, SpaceAt w b e k A ∧ RefAt w G g A) ∧ G ≤ b ∧ Below G w0 w ∧ G ≤ w.heap.size

theorem both_does {w0 w : World} {G b g k : Nat} (h : Both w0 G b g k w) (x : Stp) (hF : x.fits) (hk : k < 1099511627776) (htx : x.tx.size ≤ 65536) :
    Calls Try.prog 10 #[.pointer (some ⟨b + 1, 0, none⟩), .pointer (some ⟨g, 0, none⟩), .agg x.cells.toArray] w fun r w' => r = .returned (.bool true) ∧ Both w0 G b g (k + 1) w' := by
  obtain ⟨⟨e, A, hs, hr⟩, hb, hlo, hsz⟩ := h
  refine (does_both G b e k g A x hF hk htx w hs hr hb).mono ?_
  rintro r w' ⟨h1, ⟨e2, A2, h2, h3⟩, h4⟩
  exact ⟨h1, ⟨e2, A2, h2, h3⟩, hb, hlo.trans h4, Nat.le_trans hsz h4.size⟩
/-- Behind the copy of the space. -/
def Mid (w0 : World) (G b g k : Nat) (w : World) : Prop := (∃ e A, SpaceAt w b e k A ∧ e ≤ w.heap.size ∧ RefAt w G g A) ∧ G ≤ b ∧ Below G w0 w ∧ G ≤ w.heap.size
theorem both_copy {w0 w : World} {G b g k : Nat} (h : Both w0 G b g k w) (hk : k < 1099511627776) :
    Calls Try.prog 11 #[.pointer (some ⟨b + 1, 0, none⟩)] w fun r w' => (∃ b2, r = .returned (.pointer (some ⟨b2 + 1, 0, none⟩)) ∧ Both w0 G b2 g k w') := by
  obtain ⟨⟨e, A, hs, hr⟩, hb, hlo, hsz⟩ := h
  refine (copy_any b e k hk A w hs).mono ?_
  rintro r w' ⟨h1, ⟨e2, h2⟩, h3⟩
  exact ⟨_, h1, ⟨e2, A, h2, hr.below h3⟩, hsz, hlo.trans (h3.mono hsz), Nat.le_trans hsz h3.size⟩
theorem both_rcopy {w0 w : World} {G b g k : Nat} (h : Both w0 G b g k w) :
    Calls Try.prog 12 #[.pointer (some ⟨g, 0, none⟩)] w fun r w' => (∃ g2, r = .returned (.pointer (some ⟨g2, 0, none⟩)) ∧ Both w0 G b g2 k w') := by
  obtain ⟨⟨e, A, hs, hr⟩, hb, hlo, hsz⟩ := h
  refine (rcopy_any G g A w hr hsz).mono ?_
  rintro r w' ⟨h1, h2, h3⟩
  exact ⟨_, h1, ⟨e, A, hs.below h3 hs.hi, h2⟩, hb, hlo.trans (h3.mono hsz), Nat.le_trans hsz h3.size⟩

set_option maxHeartbeats 4000000 in
set_option maxRecDepth 100000 in
theorem plays_light (l : List Stp) (a0 : Option Addr) (c : Nat) (ad : Nat) (w : World) (hl : l.length ≤ 120) (htx : ∀ k, k < l.length → (l.getD k Stp.nought).tx.size ≤ 8192) (hF : ∀ k, k < l.length → (l.getD k Stp.nought).fits)
    (hA : ∀ k, k < l.length → ∃ g o, a0 = some ⟨g, o, none⟩ ∧ g < w.heap.size ∧ Lie w g o l) (had : ad < 4294967296)
    (hHv : Calls Try.prog 7 #[.slice a0 l.length c] w fun e w' => e = .returned (.bool false) ∧ w' = w) :
    Calls Try.prog 3 #[.slice a0 l.length c, .int .u32 (ad : Int)] w fun e w' => e = .returned (.bool true) ∧ Below w.heap.size w w' := by
  obtain ⟨G, hG⟩ : ∃ G, G = w.heap.size := ⟨_, rfl⟩
  have HG := Lib.hid hG
  rw [← hG]
  have HA := Lib.hid hA
  have HF := Lib.hid hF
  have HT := Lib.hid htx
  have HL := Lib.hid hl
  have HAD := Lib.hid had
  obtain ⟨N, hN⟩ : ∃ N, N = l.length := ⟨_, rfl⟩
  rw [← hN] at hHv ⊢
  have HN := Lib.hid hN
  clear hA hF htx hl had hN
  go_enter Try.func3, Try.ntmps3
  go_wp2_with fail
  refine hHv.mono ?_; rintro e w0 ⟨rfl, hw0⟩
  subst hw0
  go_wp2_with fail
  refine (new_any _).mono ?_; rintro e w1 ⟨rfl, h1, hb, hsz⟩
  rw [← hG] at h1 hb hsz ⊢
  have HS : Hid (Both w0 G G w1.heap.size 0 (w1.alloc (.cells #[.slice none 0 0] 31))) := Lib.hid ⟨⟨_, _, h1.same (by simp) (fun j _ hj => Below.heap_alloc _ _ _ (by omega)), RefAt.bare (Blk.new w1 _ _) (by omega)⟩, Nat.le_refl _, hb.alloc (by omega) _, by simp; omega⟩
  clear h1 hb hsz hG hHv
  obtain ⟨g1, hg1⟩ : ∃ g1, g1 = w1.heap.size := ⟨_, rfl⟩
  rw [← hg1] at HS
  have HG1 := Lib.hid hg1
  clear hg1
  go_wp2_with fail
  rw [← HG1.out]
  go_loopw [5, 6, 7] (fun v5 v6 v7 wr => ∃ (k b g : Nat), v5 = .pointer (some ⟨b + 1, 0, none⟩) ∧ v6 = .pointer (some ⟨g, 0, none⟩) ∧ v7 = .int .i64 k ∧ Hid (k ≤ N) ∧ Hid (Both w0 G b g k wr)) (fun _ _ v _ => N - (intOf v).toNat)
  case atStart => exact ⟨0, G, g1, rfl, rfl, rfl, Lib.hid (Nat.zero_le _), HS⟩
  case round =>
    obtain ⟨k, b, g, rfl, rfl, rfl, HK, HSP⟩ := hrel
    clear HS
    by_cases hlt : (k : Int) < (N : Int)
    · have hk : k < l.length := by have := HN.out; omega
      have hw64 : IntKind.i64.wrap ((k : Int) + 1) = (k : Int) + 1 := by rw [IntKind.wrap_i64]; have := HN.out; have := HL.out; omega
      obtain ⟨q, o, rfl, hg, hL⟩ := HA.out k hk
      obtain ⟨⟨op, xa, xn, tx⟩, hx⟩ : ∃ x, l.getD k Stp.nought = x := ⟨_, rfl⟩
      have HC := Lib.hid (fun (w' : World) (h : Both w0 G b g (k + 1) w') => ((hL.below h.2.2.1 (by rw [HG.out]; exact hg)).four k hk hx).1)
      obtain ⟨c0, c1, c2, c3⟩ := (hL.below HSP.out.2.2.1 (by rw [HG.out]; exact hg)).four k hk hx
      have hD : Hid (Calls Try.prog 10 #[.pointer (some ⟨b + 1, 0, none⟩), .pointer (some ⟨g, 0, none⟩), .agg #[.int .i64 op, .int .u32 xa, .int .i64 xn, .string tx]] wr fun r w' => r = .returned (.bool true) ∧ Both w0 G b g (k + 1) w') := Lib.hid (by
        have hf := HF.out k hk
        have ht := HT.out k hk
        rw [hx] at hf ht
        exact both_does HSP.out ⟨op, xa, xn, tx⟩ hf (by have := HL.out; omega) (by simp only at ht ⊢; omega))
      have HK2 : Hid (k + 1 ≤ N) := Lib.hid (by omega)
      have HK3 : Hid (k + 1 < 1099511627776) := Lib.hid (by have := HL.out; omega)
      clear hL hg hx hk
      go_wp2_with fail
      refine hD.out.mono ?_; rintro r w2 ⟨rfl, h2⟩
      have HB2 := Lib.hid h2
      clear hD HSP c0 c1 c2 c3 h2 HK
      have c0 := HC.out _ HB2.out
      clear HC
      by_cases h7 : op = 7
      · have t7 : (op == 7) = true := by rw [h7]; rfl
        clear h7
        go_wp2_with fail
        refine (both_copy HB2.out HK3.out).mono ?_; rintro r w3 ⟨b2, rfl, h3⟩
        have HB3 := Lib.hid h3
        clear h3 HB2 c0
        go_wp2_with fail
        refine (both_rcopy HB3.out).mono ?_; rintro r w4 ⟨g2, rfl, h4⟩
        have HB4 := Lib.hid h4
        clear h4 HB3
        go_wp2_with fail
        go_roundw
        case rel => exact ⟨k + 1, b2, g2, rfl, rfl, by go_num, HK2, HB4⟩
        case measure => simp [intOf]; have := HK2.out; omega
      · have t7 : (op == 7) = false := by rw [beq_eq_false_iff_ne]; exact h7
        clear h7
        go_wp2_with fail
        go_roundw
        case rel => exact ⟨k + 1, b, g, rfl, rfl, by go_num, HK2, HB2⟩
        case measure => simp [intOf]; have := HK2.out; omega
    · have hkn : k < 256 := by have := HK.out; have := HN.out; have := HL.out; omega
      obtain ⟨⟨e1, A, hs, hr⟩, hb, hlo, hsz⟩ := HSP.out
      have HP := perm_any b e1 k A ad HAD.out wr hs
      have HQ := rperm_any G g A ad HAD.out wr hr
      have HSA := Lib.hid (same_any G b e1 k g A wr hs hkn hr)
      obtain ⟨P, hP⟩ : ∃ P : Int, P = (permV A ad : Nat) := ⟨_, rfl⟩
      obtain ⟨z, hz⟩ : ∃ z, z = (A (ad / 256)).isSome := ⟨_, rfl⟩
      rw [← hP, ← hz] at HP HQ
      have HP1 := Lib.hid HP
      have HQ1 := Lib.hid HQ
      have HLO := Lib.hid (And.intro hlo hsz)
      clear hP hz HP HQ hs hr hb hlo hsz hkn HSP HK
      go_wp2_with fail
      refine HP1.out.mono ?_; rintro r wp ⟨rfl, hwp⟩
      subst hwp
      go_wp2_with fail
      refine HQ1.out.mono ?_; rintro r wq ⟨rfl, hwq⟩
      subst hwq
      have zz : (z == z) = true := by cases z <;> rfl
      have pp : (P == P) = true := by simp
      go_wp2_with fail
      refine HSA.out.mono ?_; rintro r w5 ⟨rfl, q5⟩
      have HB5 : Hid (Below G w0 w5 ∧ G ≤ w5.heap.size) := Lib.hid ⟨HLO.out.1.trans (q5.mono HLO.out.2), Nat.le_trans HLO.out.2 q5.size⟩
      clear q5 HSA
      go_wp2_with fail
      refine (alive_any _).mono ?_; rintro e wz ⟨rfl, qz⟩
      go_wp2
      go_ret
      exact ⟨rfl, HB5.out.1.trans (qz.mono HB5.out.2)⟩

set_option maxHeartbeats 1000000 in
set_option maxRecDepth 100000 in
theorem plays_heavy (v : Value) (ad : Int) (w : World) (hHv : Calls Try.prog 7 #[v] w fun e w' => e = .returned (.bool true) ∧ w' = w) :
    Calls Try.prog 3 #[v, .int .u32 ad] w fun e w' => e = .returned (.bool true) ∧ Below w.heap.size w w' := by
  go_enter Try.func3, Try.ntmps3
  go_wp2_with fail
  refine hHv.mono ?_; rintro e w0 ⟨rfl, hw0⟩
  subst hw0
  go_wp2_with fail
  refine (alive_any _).mono ?_; rintro e w1 ⟨rfl, hb⟩
  go_wp2
  go_ret
  exact ⟨rfl, hb⟩

theorem plays_any (l : List Stp) (a0 : Option Addr) (c : Nat) (x : Int) (w : World) (hl : l.length ≤ 9223372036854775807) (hF : ∀ k, k < l.length → (l.getD k Stp.nought).fits)
    (hA : ∀ k, k < l.length → ∃ g o, a0 = some ⟨g, o, none⟩ ∧ g < w.heap.size ∧ Lie w g o l) (h0 : 0 ≤ x) (h1 : x < 4294967296) :
    Calls Try.prog 3 #[.slice a0 l.length c, .int .u32 x] w fun e w' => e = .returned (.bool true) ∧ Below w.heap.size w w' := by
  have hHv := heavy_at l a0 c w hl hF hA
  obtain ⟨ad, rfl⟩ : ∃ ad : Nat, x = (ad : Int) := ⟨x.toNat, by omega⟩
  cases hh : heavyL l with
  | true => rw [hh] at hHv; exact plays_heavy _ _ w hHv
  | false =>
    rw [hh] at hHv
    obtain ⟨q1, q2, _⟩ := not_heavy hh
    exact plays_light l a0 c ad w q1 (fun k hk => Nat.le_trans (tx_le l k hk) q2) hF hA (by omega) hHv
end Go.Proofs.Ytfickpjecehboaa
