/- The chapter's examples: the statements' function alive returns true. -/
import Derived.Test.YtfickpjecehboaaSF
set_option linter.unusedVariables false
namespace Go.Proofs.Ytfickpjecehboaa
open Go.RowKit Go.Maps

def A0 : As := fun _ => none
def A1 : As := mapA A0 0 3
def A2 : As := putR A1 2 255 ⟨#[120]⟩
theorem k1 : mapE A0 0 3 = 0 := by decide +kernel
theorem k2 : putE A1 2 255 ⟨#[120]⟩ = 0 := by decide +kernel
theorem k3 : getE A2 1 254 2 = 0 ∧ getS A2 1 254 2 = ⟨#[0, 120]⟩ := by decide +kernel
theorem k4 : getE A2 4 0 8 = 50 := by decide +kernel
theorem k5 : getE A2 1 256 0 = 0 ∧ getS A2 1 256 0 = ⟨#[]⟩ := by decide +kernel
theorem k6 : putE A2 2 255 ⟨#[120, 121]⟩ = 50 ∧ okAll A2 2 255 2 = false := by decide +kernel
theorem k7 : mapE A2 256 8 = 2 ∧ mapE A2 1 1 = 2 ∧ mapE A2 0 1 = 9 := by decide +kernel

theorem c1 (b e n : Nat) (hn : n < 1000) (w : World) (h : SpaceAt w b e n A0) : Calls Try.prog 21 #[.pointer (some ⟨b + 1, 0, none⟩), .int .u32 0, .int .u8 3] w fun e' w' => e' = .returned (.int .i64 0) ∧ (∃ e2, e ≤ e2 ∧ SpaceAt w' b e2 (n + 1) A1) ∧ Turn w w' b e := by
  have := map_any b e n (by omega) A0 0 3 (by decide) (by decide) w h
  rw [k1] at this
  exact this
theorem c2 (b e n : Nat) (w : World) (h : SpaceAt w b e n A1) : Calls Try.prog 17 #[.pointer (some ⟨b + 1, 0, none⟩), .int .u32 255, .string ⟨#[120]⟩] w fun e' w' => e' = .returned (.int .i64 0) ∧ SpaceAt w' b e n A2 ∧ Turn w w' b e := by
  have := write_any' b e n A1 255 ⟨#[120]⟩ (by decide) (by decide) w h
  rw [k2] at this
  exact this
theorem c3 (b e n : Nat) (w : World) (h : SpaceAt w b e n A2) : Calls Try.prog 22 #[.pointer (some ⟨b + 1, 0, none⟩), .int .u32 254, .int .i64 2] w fun e' w' => e' = .returned (.tuple #[.string ⟨#[0, 120]⟩, .int .i64 0]) ∧ Below w.heap.size w w' := by
  have := read_any b e n A2 254 2 (by decide) w h
  rw [k3.1, k3.2] at this
  exact this
theorem c4 (b e n : Nat) (w : World) (h : SpaceAt w b e n A2) : Calls Try.prog 23 #[.pointer (some ⟨b + 1, 0, none⟩), .int .u32 0] w fun e' w' => (∃ s, e' = .returned (.tuple #[.string s, .int .i64 50])) ∧ Below w.heap.size w w' := by
  have := fetch_any b e n A2 0 (by decide) w h
  rw [k4] at this
  exact this.mono fun _ _ ⟨h1, h2⟩ => ⟨⟨_, h1⟩, h2⟩
theorem c5 (b e n : Nat) (w : World) (h : SpaceAt w b e n A2) : Calls Try.prog 22 #[.pointer (some ⟨b + 1, 0, none⟩), .int .u32 256, .int .i64 0] w fun e' w' => e' = .returned (.tuple #[.string ⟨#[]⟩, .int .i64 0]) ∧ Below w.heap.size w w' := by
  have := read_any b e n A2 256 0 (by decide) w h
  rw [k5.1, k5.2] at this
  exact this
theorem c6 (b e n : Nat) (w : World) (h : SpaceAt w b e n A2) : Calls Try.prog 17 #[.pointer (some ⟨b + 1, 0, none⟩), .int .u32 255, .string ⟨#[120, 121]⟩] w fun e' w' => e' = .returned (.int .i64 50) ∧ SpaceAt w' b e n A2 ∧ Turn w w' b e := by
  have := write_any' b e n A2 255 ⟨#[120, 121]⟩ (by decide) (by decide) w h
  have hr : putR A2 2 255 ⟨#[120, 121]⟩ = A2 := by unfold putR; rw [show (⟨#[120, 121]⟩ : ByteArray).size = 2 from rfl, k6.2]; rfl
  rw [k6.1, hr] at this
  exact this
theorem c7 (b e n : Nat) (hn : n < 1000) (w : World) (h : SpaceAt w b e n A2) : Calls Try.prog 21 #[.pointer (some ⟨b + 1, 0, none⟩), .int .u32 256, .int .u8 8] w fun e' w' => e' = .returned (.int .i64 2) ∧ (∃ e2, e ≤ e2 ∧ SpaceAt w' b e2 (n + 1) A2) ∧ Turn w w' b e := by
  have := map_any b e n (by omega) A2 256 8 (by decide) (by decide) w h
  rw [mapA_not (by rw [k7.1]; decide), k7.1] at this
  exact this
theorem c8 (b e n : Nat) (hn : n < 1000) (w : World) (h : SpaceAt w b e n A2) : Calls Try.prog 21 #[.pointer (some ⟨b + 1, 0, none⟩), .int .u32 1, .int .u8 1] w fun e' w' => e' = .returned (.int .i64 2) ∧ (∃ e2, e ≤ e2 ∧ SpaceAt w' b e2 (n + 1) A2) ∧ Turn w w' b e := by
  have := map_any b e n (by omega) A2 1 1 (by decide) (by decide) w h
  rw [mapA_not (by rw [k7.2.1]; decide), k7.2.1] at this
  exact this
theorem c9 (b e n : Nat) (hn : n < 1000) (w : World) (h : SpaceAt w b e n A2) : Calls Try.prog 21 #[.pointer (some ⟨b + 1, 0, none⟩), .int .u32 0, .int .u8 1] w fun e' w' => e' = .returned (.int .i64 9) ∧ (∃ e2, e ≤ e2 ∧ SpaceAt w' b e2 (n + 1) A2) ∧ Turn w w' b e := by
  have := map_any b e n (by omega) A2 0 1 (by decide) (by decide) w h
  rw [mapA_not (by rw [k7.2.2]; decide), k7.2.2] at this
  exact this

theorem Turn.step {B : Nat} {w0 w w' : World} {b e : Nat} (hb : Below B w0 w) (h : Turn w w' b e) (hB : B ≤ b) (hs : B ≤ w.heap.size) : Below B w0 w' := hb.trans (h.below hB hs)

set_option maxHeartbeats 2000000 in
set_option maxRecDepth 100000 in
theorem alive_any (w : World) : Calls Try.prog 8 #[] w fun e w' => e = .returned (.bool true) ∧ Below w.heap.size w w' := by
  obtain ⟨G, hG⟩ : ∃ G, G = w.heap.size := ⟨_, rfl⟩
  have HG := Lib.hid hG
  rw [← hG]
  go_enter Try.func8, Try.ntmps8
  go_wp2_with fail
  refine (new_any _).mono ?_; rintro e w1 ⟨rfl, h1, hb, hsz⟩
  rw [← hG] at h1 hb ⊢
  have HS := Lib.hid h1
  have HZ : Hid (G ≤ w1.heap.size) := Lib.hid (by omega)
  clear h1 hsz hG
  go_wp2_with fail
  refine (c1 _ _ _ (by decide) _ HS.out).mono ?_; rintro e w2 ⟨rfl, ⟨e2, he2, h2⟩, t⟩
  replace hb := Turn.step hb t (Nat.le_refl _) HZ.out
  replace HZ : Hid (G ≤ w2.heap.size) := Lib.hid (Nat.le_trans HZ.out t.size)
  replace HS := Lib.hid h2
  clear t h2 he2
  go_wp2_with fail
  refine (c2 _ _ _ _ HS.out).mono ?_; rintro e w3 ⟨rfl, h3, t⟩
  replace hb := Turn.step hb t (Nat.le_refl _) HZ.out
  replace HZ : Hid (G ≤ w3.heap.size) := Lib.hid (Nat.le_trans HZ.out t.size)
  replace HS := Lib.hid h3
  clear t h3
  go_wp2_with fail
  refine (c3 _ _ _ _ HS.out).mono ?_; rintro e w4 ⟨rfl, q⟩
  replace HS := Lib.hid (HS.out.below q HS.out.hi)
  replace hb := hb.trans (q.mono HZ.out)
  replace HZ : Hid (G ≤ w4.heap.size) := Lib.hid (Nat.le_trans HZ.out q.size)
  clear q
  go_wp2_with fail
  refine (c4 _ _ _ _ HS.out).mono ?_; rintro e w5 ⟨⟨s4, rfl⟩, q⟩
  replace HS := Lib.hid (HS.out.below q HS.out.hi)
  replace hb := hb.trans (q.mono HZ.out)
  replace HZ : Hid (G ≤ w5.heap.size) := Lib.hid (Nat.le_trans HZ.out q.size)
  clear q
  go_wp2_with fail
  refine (c5 _ _ _ _ HS.out).mono ?_; rintro e w6 ⟨rfl, q⟩
  replace HS := Lib.hid (HS.out.below q HS.out.hi)
  replace hb := hb.trans (q.mono HZ.out)
  replace HZ : Hid (G ≤ w6.heap.size) := Lib.hid (Nat.le_trans HZ.out q.size)
  clear q
  go_wp2_with fail
  refine (c6 _ _ _ _ HS.out).mono ?_; rintro e w7 ⟨rfl, h7, t⟩
  replace hb := Turn.step hb t (Nat.le_refl _) HZ.out
  replace HZ : Hid (G ≤ w7.heap.size) := Lib.hid (Nat.le_trans HZ.out t.size)
  replace HS := Lib.hid h7
  clear t h7
  go_wp2_with fail
  refine (c7 _ _ _ (by decide) _ HS.out).mono ?_; rintro e w8 ⟨rfl, ⟨e8, he8, h8⟩, t⟩
  replace hb := Turn.step hb t (Nat.le_refl _) HZ.out
  replace HZ : Hid (G ≤ w8.heap.size) := Lib.hid (Nat.le_trans HZ.out t.size)
  replace HS := Lib.hid h8
  clear t h8 he8
  go_wp2_with fail
  refine (c8 _ _ _ (by decide) _ HS.out).mono ?_; rintro e w9 ⟨rfl, ⟨e9, he9, h9⟩, t⟩
  replace hb := Turn.step hb t (Nat.le_refl _) HZ.out
  replace HZ : Hid (G ≤ w9.heap.size) := Lib.hid (Nat.le_trans HZ.out t.size)
  replace HS := Lib.hid h9
  clear t h9 he9
  go_wp2_with fail
  refine (c9 _ _ _ (by decide) _ HS.out).mono ?_; rintro e wa ⟨rfl, ⟨ea, hea, ha⟩, t⟩
  replace hb := Turn.step hb t (Nat.le_refl _) HZ.out
  clear t ha hea HS
  go_wp2
  go_ret
  exact ⟨rfl, hb⟩
end Go.Proofs.Ytfickpjecehboaa
