/- The program's local: an object's own symbol of a name. -/
import Derived.Test.YtfnofolahhoggaaUB
import Derived.Test.YtfnofolahhoggaaNH
set_option linter.unusedVariables false
set_option linter.unusedSimpArgs false
namespace Go.Proofs.Ytfnofolahhoggaa
open Go Go.RowKit Go.Maps Oj Rv

set_option maxHeartbeats 4000000 in
set_option maxRecDepth 100000 in
theorem local1_any (U nm u4 : ByteArray) (u1 u2 u3 : Int) (ra na : Option Addr) (rn rc nn nc : Nat) (g : Nat) (w : World) (hg : g < w.heap.size) (hc : w.cell? ⟨g, 0, none⟩ = some (.string nm)) :
    Calls Try.prog 41 #[.agg #[.string U, .int .u8 u1, .int .u8 u2, .int .u32 u3, .string u4, .slice ra rn rc, .slice na nn nc], .pointer (some ⟨g, 0, none⟩)] w fun e w' => e = .returned (.bool (decide (by' U = by' nm) && decide (u1 = 0))) ∧ Below w.heap.size w w' := by
  have hs := str_eq U nm
  obtain ⟨B, hB⟩ : ∃ B, B = decide (by' U = by' nm) := ⟨_, rfl⟩
  rw [← hB] at hs ⊢
  have HB1 := Lib.hid (below_new1 w (.cells #[.string U, .int .u8 u1, .int .u8 u2, .int .u32 u3, .string u4, .slice ra rn rc, .slice na nn nc] 50))
  have hc1 : (w.alloc (.cells #[.string U, .int .u8 u1, .int .u8 u2, .int .u32 u3, .string u4, .slice ra rn rc, .slice na nn nc] 50)).cell? ⟨g, 0, none⟩ = some (.string nm) := (HB1.out.cell (p := ⟨g, 0, none⟩) hg).trans hc
  clear hB hc
  by_cases h : u1 = 0
  · subst h
    rw [decide_eq_true (rfl : (0 : Int) = 0), Bool.and_true]
    go_enter Try.func41, Try.ntmps41
    go_wp2_with fail
    go_ret
    exact ⟨rfl, HB1.out⟩
  · have hb : (u1 == 0) = false := by rw [beq_eq_false_iff_ne]; exact h
    have HR : Hid ((B && decide (u1 = 0)) = false) := Lib.hid (by rw [decide_eq_false h, Bool.and_false])
    clear h
    go_enter Try.func41, Try.ntmps41
    go_wp2_with fail
    go_ret
    exact ⟨by rw [HR.out]; rfl, HB1.out⟩

def ownI (o : Option Nat) : Value := .int .i64 (match o with | some k => (k : Int) | none => -1)
/-- The first local symbol of a name. -/
def ownS (l : List Sy) (nm : List UInt8) : Option Nat := (List.range l.length).find? fun k => decide ((l.getD k Sy.nought).name = nm) && decide ((l.getD k Sy.nought).bind = 0)
theorem ownS_hit {l : List Sy} {k : Nat} {nm : List UInt8} (hk : k < l.length) (h : (decide ((l.getD k Sy.nought).name = nm) && decide ((l.getD k Sy.nought).bind = 0)) = true) (hj : ∀ j, j < k → (decide ((l.getD j Sy.nought).name = nm) && decide ((l.getD j Sy.nought).bind = 0)) = false) : ownS l nm = some k := by
  unfold ownS
  rw [List.find?_range_eq_some]
  exact ⟨h, by simpa using hk, fun j h2 => by rw [hj j h2]; rfl⟩
theorem ownS_none {l : List Sy} {nm : List UInt8} (hj : ∀ j, j < l.length → (decide ((l.getD j Sy.nought).name = nm) && decide ((l.getD j Sy.nought).bind = 0)) = false) : ownS l nm = none := by
  unfold ownS
  rw [List.find?_range_eq_none]
  exact fun j h2 => by rw [hj j h2]; rfl
theorem own_eq (l : List Ob) (n : Nat) (nm : List UInt8) : ownL l n nm = ownS (symsN l n) nm := rfl
set_option maxHeartbeats 8000000 in
set_option maxRecDepth 100000 in
theorem indexFunc_any (v : Value) (l : List Sy) (nm : ByteArray) (g : Nat) (w : World) (hA : SymsAt w v l) (hl : l.length * 88 ≤ 140737488355328) (hg : g < w.heap.size) (hc : w.cell? ⟨g, 0, none⟩ = some (.string nm)) :
    Calls Try.prog 40 #[v, .func (.func 41) #[] #[.pointer (some ⟨g, 0, none⟩)]] w fun e w' => e = .returned (ownI (ownS l (by' nm))) ∧ Below w.heap.size w w' := by
  obtain ⟨a, c, rfl, h2⟩ := hA.get
  obtain ⟨n, hn⟩ : ∃ n, n = l.length := ⟨_, rfl⟩
  have hni : (n : Int) ≤ 1599289640402 := by omega
  rw [← hn] at h2 ⊢
  have H2 := Lib.hid h2
  have HN := Lib.hid hn
  have HC := Lib.hid hc
  have HG := Lib.hid hg
  have HB0 := Lib.hid (Below.refl w.heap.size w)
  clear hn h2 hl hc hg hA
  go_enter Try.func40, Try.ntmps40
  go_wp2_with fail
  go_loopw [8] (fun i wr => ∃ k : Nat, (k : Int) ≤ n ∧ i = .int .i64 k ∧ Hid (∀ j, j < k → (decide ((l.getD j Sy.nought).name = by' nm) && decide ((l.getD j Sy.nought).bind = 0)) = false) ∧ Hid (Below w.heap.size w wr)) (fun i _ => n - (intOf i).toNat)
  case atStart => exact ⟨0, by omega, rfl, Lib.hid fun j hj => absurd hj (by omega), HB0⟩
  case round =>
    clear HB0
    obtain ⟨k, hk, rfl, HK, HB⟩ := hrel
    by_cases hlt : k < n
    · obtain ⟨b, o, rfl, hbl, hcl⟩ := H2.out (by omega)
      obtain ⟨vr, vn, hL, hr0, hn0⟩ := hcl k hlt
      obtain ⟨s, hs⟩ : ∃ s, s = l.getD k Sy.nought := ⟨_, rfl⟩
      rw [← hs] at hL hr0 hn0
      obtain ⟨c0, c1, c2, c3, c4, c5, c6⟩ := (hL.below HB.out hbl).sy
      have hbr : b < wr.heap.size := Nat.lt_of_lt_of_le hbl HB.out.size
      obtain ⟨ra, rc, hrv, _⟩ := hr0
      obtain ⟨na, nc, hnv, _⟩ := hn0
      obtain ⟨U, hU⟩ : ∃ u, u = tx s.name := ⟨_, rfl⟩
      obtain ⟨u1, g1⟩ : ∃ u, u = s.bind := ⟨_, rfl⟩
      obtain ⟨u2, g2⟩ : ∃ u, u = s.kind := ⟨_, rfl⟩
      obtain ⟨u3, g3⟩ : ∃ u, u = s.size := ⟨_, rfl⟩
      obtain ⟨u4, g4⟩ : ∃ u, u = tx s.bytes := ⟨_, rfl⟩
      obtain ⟨rn, hrn⟩ : ∃ x, x = s.rels.length := ⟨_, rfl⟩
      obtain ⟨nn, hnn⟩ : ∃ x, x = s.notes.length := ⟨_, rfl⟩
      rw [← hrn] at hrv
      rw [← hnn] at hnv
      subst hrv hnv
      rw [← hU] at c0
      rw [← g1] at c1
      rw [← g2] at c2
      rw [← g3] at c3
      rw [← g4] at c4
      have HI := Lib.hid (local1_any U nm u4 u1 u2 u3 ra na rn rc nn nc g wr (Nat.lt_of_lt_of_le HG.out HB.out.size) ((HB.out.cell (p := ⟨g, 0, none⟩) HG.out).trans HC.out))
      have hbU : by' U = s.name := by rw [hU, by_tx]
      obtain ⟨p, hp⟩ : ∃ p, p = (decide (by' U = by' nm) && decide (u1 = 0)) := ⟨_, rfl⟩
      rw [← hp] at HI
      have HP : Hid ((decide ((l.getD k Sy.nought).name = by' nm) && decide ((l.getD k Sy.nought).bind = 0)) = p) := Lib.hid (by rw [hp, hbU, g1, hs])
      have hd : decide (k < n) = true := decide_eq_true hlt
      clear hp hbU hU g1 g2 g3 g4 hrn hnn hs hL hcl
      cases p with
      | true =>
        have HR : Hid (ownS l (by' nm) = some k) := Lib.hid (ownS_hit (by rw [← HN.out]; exact hlt) HP.out HK.out)
        clear HP HK
        go_wp2_with fail
        refine HI.out.mono ?_; rintro e w2 ⟨rfl, q2⟩
        have HB2 := Lib.hid (below_call HB.out q2)
        clear q2
        go_wp2_with fail
        go_ret
        exact ⟨by rw [HR.out]; rfl, HB2.out⟩
      | false =>
        have HK2 : Hid (∀ j, j < k + 1 → (decide ((l.getD j Sy.nought).name = by' nm) && decide ((l.getD j Sy.nought).bind = 0)) = false) := Lib.hid fun j hj => by
          by_cases hx : j = k
          · subst hx; exact HP.out
          · exact HK.out j (by omega)
        clear HP HK
        go_wp2_with fail
        refine HI.out.mono ?_; rintro e w2 ⟨rfl, q2⟩
        have HB2 := Lib.hid (below_call HB.out q2)
        clear q2
        go_wp2_with fail
        go_roundw
        case rel => exact ⟨k + 1, by omega, by go_num, HK2, HB2⟩
        case measure => simp [intOf]; omega
    · have hd : decide (k < n) = false := decide_eq_false hlt
      have HR : Hid (ownS l (by' nm) = none) := Lib.hid (ownS_none fun j hj => HK.out j (by rw [← HN.out] at hj; omega))
      clear hlt HK
      go_wp2
      go_ret
      exact ⟨by rw [HR.out]; rfl, HB.out⟩
set_option maxHeartbeats 4000000 in
set_option maxRecDepth 100000 in
theorem local_any (M : ByteArray) (vs : Value) (l : List Sy) (nm : ByteArray) (w : World) (hA : SymsAt w vs l) (hl : l.length * 88 ≤ 140737488355328) :
    Calls Try.prog 35 #[.agg #[.string M, vs], .string nm] w fun e w' => e = .returned (ownI (ownS l (by' nm))) ∧ Below w.heap.size w w' := by
  have HS := Lib.hid (fun W (hq : Below w.heap.size w W) => hA.below hq)
  obtain ⟨R, N, ⟨a, c, rfl, h2⟩, h3⟩ := hA
  obtain ⟨n, hn⟩ : ∃ n, n = l.length := ⟨_, rfl⟩
  rw [← hn] at HS ⊢
  have hsz : ((w.alloc (.cells #[.string M, .slice a n c] 43)).heap.size) = w.heap.size + 1 := by simp
  have HB := Lib.hid (below_box (below_new1 w (.cells #[.string M, .slice a n c] 43)) (.cells #[.string nm] 9))
  have hX := Blk.new (w.alloc (.cells #[.string M, .slice a n c] 43)) 9 [.string nm]
  rw [hsz] at hX
  have HI := Lib.hid (indexFunc_any _ l nm (w.heap.size + 1) _ (HS.out _ HB.out) hl hX.lt (hX.cell 0))
  obtain ⟨E, hE⟩ : ∃ E, E = ownI (ownS l (by' nm)) := ⟨_, rfl⟩
  rw [← hE] at HI ⊢
  clear hn hE hX hsz h2 h3 HS
  go_enter Try.func35, Try.ntmps35
  go_wp2_with fail
  refine HI.out.mono ?_; rintro e w2 ⟨rfl, q2⟩
  have HB2 := Lib.hid (below_call HB.out q2)
  clear q2
  go_wp2_with fail
  go_ret
  exact ⟨rfl, HB2.out⟩
end Go.Proofs.Ytfnofolahhoggaa
