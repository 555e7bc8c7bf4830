/- The document's own look-up of a page, and of its perm. -/
import Derived.Test.YtfickpjecehboaaEA
import Derived.BigQuiet
set_option linter.unusedVariables false
namespace Go.Proofs.Ytfickpjecehboaa
open Go.RowKit Go.Maps

set_option maxHeartbeats 2000000 in
set_option maxRecDepth 100000 in
theorem rof_any (B g c : Nat) (a : Option Addr) (L : List RP) (A : As) (x : Nat) (hx : x < 1099511627776) (w : World) (h : RefP w B g a c L A) :
    Calls Try.prog 32 #[.pointer (some ⟨g, 0, none⟩), .int .u64 (x : Int)] w fun r w' => ((A (x / 256) = none ∧ r = .returned (.pointer none)) ∨ ∃ e, e ∈ L ∧ e.i = x / 256 ∧ r = .returned (.pointer (some ⟨e.p, 0, none⟩))) ∧ w' = w := by
  have H := Lib.hid h
  have hc := h.cell0
  have HX := Lib.hid hx
  have HLen := Lib.hid h.len
  obtain ⟨N, hN⟩ : ∃ N, N = L.length := ⟨_, rfl⟩
  rw [← hN] at hc
  have HN := Lib.hid hN
  clear h hN hx
  go_enter Try.func32, Try.ntmps32
  go_wp2_with fail
  go_loopw [5] (fun v wr => ∃ j : Nat, v = .int .i64 j ∧ Hid (j ≤ N ∧ ∀ k, k < j → (L.getD k RP.nought).i ≠ x / 256) ∧ wr = w) (fun v _ => N - (intOf v).toNat)
  case atStart => exact ⟨0, rfl, Lib.hid ⟨Nat.zero_le _, fun k hk => absurd hk (Nat.not_lt_zero _)⟩, rfl⟩
  case round =>
    obtain ⟨j, rfl, HJ, rfl⟩ := hrel
    by_cases hlt : (j : Int) < (N : Int)
    · have hj : j < L.length := by have := HN.out; omega
      obtain ⟨k, rfl, hk⟩ := H.out.addr hj
      obtain ⟨e, he⟩ : ∃ e, L.getD j RP.nought = e := ⟨_, rfl⟩
      have hm : e ∈ L := by rw [← he]; exact H.out.mem hj
      obtain ⟨f, hA, hi, c0, _⟩ := H.out.three hm
      have ck := hk j hj
      rw [he] at ck
      have HE := Lib.hid he
      have HM := Lib.hid hm
      obtain ⟨i, p, q, cc, R⟩ := e
      simp only [ptrP] at ck c0 hi
      obtain ⟨y, hy⟩ : ∃ y : Int, y = 256 * (i : Int) := ⟨_, rfl⟩
      rw [← hy] at c0
      have m1 : IntKind.u64.wrap y = y := by rw [IntKind.wrap_u64]; omega
      have m2 : IntKind.u64.wrap (y + 256) = y + 256 := by rw [IntKind.wrap_u64]; omega
      have m3 : IntKind.i64.wrap ((j : Int) + 1) = (j : Int) + 1 := by rw [IntKind.wrap_i64]; have := HN.out; have := HLen.out; omega
      have HY := Lib.hid hy
      have HJ2 : Hid (j + 1 ≤ N) := Lib.hid (by omega)
      have HS : Hid (i ≠ x / 256 → ∀ k, k < j + 1 → (L.getD k RP.nought).i ≠ x / 256) := Lib.hid fun hne k hk => by
        by_cases hkj : k = j
        · subst hkj
          rw [HE.out]
          exact hne
        · exact HJ.out.2 k (by omega)
      clear hy hk he hm hi hA hj
      by_cases h1 : y ≤ (x : Int)
      · by_cases h2 : (x : Int) < y + 256
        · go_wp2
          go_ret
          exact ⟨.inr ⟨_, HM.out, by have := HY.out; show i = x / 256; omega, rfl⟩, rfl⟩
        · have HS2 := Lib.hid (HS.out (by have := HY.out; omega))
          go_wp2
          go_roundw
          case rel => exact ⟨j + 1, by go_num, Lib.hid ⟨HJ2.out, HS2.out⟩, trivial⟩
          case measure => simp [intOf]; have := HJ2.out; omega
      · have HS2 := Lib.hid (HS.out (by have := HY.out; omega))
        go_wp2
        go_roundw
        case rel => exact ⟨j + 1, by go_num, Lib.hid ⟨HJ2.out, HS2.out⟩, trivial⟩
        case measure => simp [intOf]; have := HJ2.out; omega
    · go_wp2
      go_ret
      refine ⟨.inl ⟨?_, rfl⟩, rfl⟩
      cases hA : A (x / 256) with
      | none => rfl
      | some f =>
        obtain ⟨e, he, hi⟩ := List.mem_map.1 (H.out.has (x / 256) (by rw [hA]; rfl))
        obtain ⟨k, hk, rfl⟩ := List.getElem_of_mem he
        have := HJ.out.2 k (by have := HN.out; omega)
        rw [List.getD_eq_getElem?_getD, List.getElem?_eq_getElem hk] at this
        exact absurd hi this
/-- There is such a page. -/
theorem rof_some (B g c : Nat) (a : Option Addr) (L : List RP) (A : As) (x : Nat) (hx : x < 1099511627776) (f : Pg) (hA : A (x / 256) = some f) (w : World) (h : RefP w B g a c L A) :
    Calls Try.prog 32 #[.pointer (some ⟨g, 0, none⟩), .int .u64 (x : Int)] w fun r w' => (∃ e, e ∈ L ∧ e.i = x / 256 ∧ r = .returned (.pointer (some ⟨e.p, 0, none⟩))) ∧ w' = w :=
  (rof_any B g c a L A x hx w h).mono fun r w' ⟨h1, h2⟩ => ⟨h1.resolve_left (by rw [hA]; rintro ⟨h3, _⟩; cases h3), h2⟩
theorem rof_none (B g c : Nat) (a : Option Addr) (L : List RP) (A : As) (x : Nat) (hx : x < 1099511627776) (hA : A (x / 256) = none) (w : World) (h : RefP w B g a c L A) :
    Calls Try.prog 32 #[.pointer (some ⟨g, 0, none⟩), .int .u64 (x : Int)] w fun r w' => r = .returned (.pointer none) ∧ w' = w :=
  (rof_any B g c a L A x hx w h).mono fun r w' ⟨h1, h2⟩ => by
    rcases h1 with ⟨_, h1⟩ | ⟨e, h3, h4, _⟩
    · exact ⟨h1, h2⟩
    · obtain ⟨f, h5, _⟩ := h.page e h3
      rw [h4, hA] at h5
      cases h5

set_option maxHeartbeats 1000000 in
theorem rmay_is (x : Int) (h0 : 0 ≤ x) (w : World) : Calls Try.prog 40 #[.int .u32 x] w fun e w' => e = .returned (.bool (decide (x < 1048576 ∧ x % 256 = 0))) ∧ w' = w := by
  have ht : x.tmod 256 = x % 256 := Int.tmod_eq_emod_of_nonneg h0
  clear h0
  go_enter Try.func40, Try.ntmps40
  go_wp2
  all_goals (go_ret; refine ⟨?_, rfl⟩; simp; first | omega | (rw [Bool.eq_iff_iff]; simp; omega))

set_option maxHeartbeats 1000000 in
set_option maxRecDepth 100000 in
theorem rperm_any (B g : Nat) (A : As) (x : Nat) (hx : x < 4294967296) (w : World) (h : RefAt w B g A) :
    Calls Try.prog 14 #[.pointer (some ⟨g, 0, none⟩), .int .u32 (x : Int)] w fun e w' => e = .returned (.tuple #[.int .u8 (permV A x : Nat), .bool (A (x / 256)).isSome]) ∧ w' = w := by
  obtain ⟨a, c, L, h⟩ := h
  have m1 : IntKind.u64.wrap (x : Int) = (x : Int) := by rw [IntKind.wrap_u64]; omega
  have hx2 : x < 1099511627776 := by omega
  cases hA : A (x / 256) with
  | none =>
    have HO := Lib.hid (rof_none B g c a L A x hx2 hA w h)
    have hp : permV A x = 0 := by unfold permV; rw [hA]
    rw [hp]
    clear hA h hp hx hx2
    go_enter Try.func14, Try.ntmps14
    go_wp2_with fail
    refine HO.out.mono ?_; rintro r w1 ⟨rfl, rfl⟩
    go_wp2
    go_ret2
    exact ⟨rfl, rfl⟩
  | some f =>
    have HO := Lib.hid (rof_some B g c a L A x hx2 f hA w h)
    have hp : permV A x = (f 256).toNat := by unfold permV; rw [hA]
    have H3 := Lib.hid (fun e (he : e ∈ L) => h.three he)
    have HA := Lib.hid hA
    rw [hp]
    clear hA h hp hx hx2
    go_enter Try.func14, Try.ntmps14
    go_wp2_with fail
    refine HO.out.mono ?_; rintro r w1 ⟨⟨e, he, hi, rfl⟩, rfl⟩
    obtain ⟨f2, hA2, _, _, c1, _⟩ := H3.out e he
    have : f2 = f := by rw [hi, HA.out] at hA2; exact (Option.some.inj hA2).symm
    subst this
    clear hA2 hi he
    go_wp2
    go_ret2
    exact ⟨rfl, rfl⟩
end Go.Proofs.Ytfickpjecehboaa
