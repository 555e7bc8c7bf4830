/- The statements' alive: the chapter's example. -/
import Derived.Test.YtbpdoiikleaidaaX33
import Derived.Test.YtbpdoiikleaidaaX38
set_option linter.unusedVariables false
set_option linter.unusedSimpArgs false
namespace Go.Proofs.Ytbpdoiikleaidaa
open Go Go.RowKit Oj Pk Of

def exO : Ob := ⟨[111], []⟩
def exS : List UInt8 := [65, 79, 66, 49, 1, 0, 111, 0, 0]
theorem exO_ok : obOk exO = true := by decide +kernel
theorem exO_enc : encO exO = exS := by decide +kernel
theorem exO_in : inO exO := ⟨by decide, by decide, fun s hs => by cases hs⟩
theorem exO_fits : obFits exO := ⟨by decide, by decide, fun j hj => absurd hj (Nat.not_lt_zero j)⟩
theorem exS_get : getO exS = some exO := by rw [← exO_enc]; exact getO_enc exO_in exO_ok
theorem exX_get : getO [120] = none := by rw [getO_cut, if_neg (by decide)]
theorem exO_at (w : World) : ObAt w (.agg #[.string ⟨#[111]⟩, .slice none 0 0]) exO :=
  ⟨_, rfl, fun _ => undef, fun _ => undef, ⟨none, 0, rfl, fun h => absurd h (by decide)⟩, fun j hj => absurd hj (Nat.not_lt_zero j)⟩
theorem two_at (w : World) : SlAt (w.alloc (.cells #[.string (tx exS), .string ⟨#[120]⟩] 9)) (.slice (some ⟨w.heap.size, 0, none⟩) 2 2) [exS, [120]] := by
  have h := Blk.new w 9 [.string (tx exS), .string ⟨#[120]⟩]
  refine ⟨_, 2, rfl, fun _ => ⟨w.heap.size, 0, rfl, h.lt, fun j hj => ?_⟩⟩
  rw [Nat.zero_add]
  have hj2 : j < 2 := hj
  rcases j with _ | _ | j
  · exact h.cell 0
  · exact h.cell 1
  · omega
set_option maxHeartbeats 4000000 in
set_option maxRecDepth 100000 in
theorem falive_any (w : World) : Calls Try.prog 7 #[] w fun e w' => e = .returned (.bool true) ∧ Below w.heap.size w w' := by
  have HPut : Hid (∀ W, Calls Try.prog 9 #[.agg #[.string ⟨#[111]⟩, .slice none 0 0]] W fun e w' => e = .returned (.tuple #[.string (tx exS), .int .i64 0]) ∧ Below W.heap.size W w') := Lib.hid (fun W => by
    have h := fput_any _ exO exO_fits W (exO_at W)
    unfold putS' at h
    rw [exO_ok, exO_enc] at h
    exact h)
  have HGet : Hid (∀ W, Calls Try.prog 13 #[.string ⟨#[65, 79, 66, 49, 1, 0, 111, 0, 0]⟩] W fun e w' => ∃ a c, e = .returned (.tuple #[.agg #[.string ⟨#[111]⟩, .slice a 0 c], .int .i64 0]) ∧ Below W.heap.size W w') := Lib.hid (fun W => by
    have h := fget_any exS W (by decide)
    rw [exS_get] at h
    refine h.mono ?_
    rintro e w' ⟨v, c, rfl, hb, hc, a, c2, R, N, hv, _⟩
    subst hc hv
    exact ⟨a, c2, rfl, hb⟩)
  have HAll : Hid (∀ W, Calls Try.prog 15 #[.slice (some ⟨W.heap.size, 0, none⟩) 2 2] (W.alloc (.cells #[.string (tx exS), .string ⟨#[120]⟩] 9)) fun e w' => e = .returned (.tuple #[.slice none 0 0, .int .i64 1, .int .i64 7]) ∧ Below W.heap.size W w') := Lib.hid (fun W => by
    have hb := below_box (Below.refl W.heap.size W) (.cells #[.string (tx exS), .string ⟨#[120]⟩] 9)
    refine (fall_any _ [exS, [120]] _ (two_at W) (fun j hj => ?_) (by decide)).mono ?_
    · have hj2 : j < 2 := hj
      rcases j with _ | _ | j
      · decide
      · decide
      · omega
    · rintro e w' ⟨h1, h2⟩
      refine ⟨?_, hb.trans (h1.mono hb.size)⟩
      rcases h2 with ⟨k, hk, h3, h4, rfl⟩ | ⟨h3, _⟩
      · have hk2 : k < 2 := hk
        rcases k with _ | _ | k
        · have h5 : getO exS = none := h4
          rw [exS_get] at h5
          cases h5
        · rfl
        · omega
      · have h5 : (getO [120]).isSome = true := h3 1 (by decide)
        rw [exX_get] at h5
        cases h5)
  obtain ⟨T, hT⟩ : ∃ T, T = tx exS := ⟨_, rfl⟩
  have hTl : (T.toList == [65, 79, 66, 49, 1, 0, 111, 0, 0]) = true := by rw [hT, ByteArray.toList_eq]; rfl
  rw [← hT] at HPut HAll
  clear hT
  have HB0 := Lib.hid (Below.refl w.heap.size w)
  go_enter Try.func7, Try.ntmps7
  go_wp2_with fail
  refine (HPut.out _).mono ?_; rintro e w1 ⟨rfl, q1⟩
  have HB1 := Lib.hid q1
  clear q1 HPut HB0
  go_wp2_with fail
  refine (HGet.out _).mono ?_; rintro e w2 ⟨a, c, rfl, q2⟩
  have HB2 := Lib.hid (below_box (below_call HB1.out q2) (.cells #[.string ⟨#[111]⟩, .slice a 0 c] 24))
  have HX2 := Lib.hid (Blk.new w2 24 [.string ⟨#[111]⟩, .slice a 0 c])
  clear q2 HGet HB1
  go_upto_region 3 with (fail)
  obtain ⟨w3, hw⟩ : ∃ t, t = w2.alloc (.cells #[.string ⟨#[111]⟩, .slice a 0 c] 24) := ⟨_, rfl⟩
  rw [← hw] at HB2 HX2 ⊢
  clear hw
  go_wp2_with fail
  refine (HAll.out _).mono ?_; rintro e w4 ⟨rfl, q4⟩
  have HB4 := Lib.hid (below_call HB2.out q4)
  have HX4 := Lib.hid (HX2.out.call q4)
  clear q4 HAll HB2 HX2
  have y0 : w4.cell? ⟨w2.heap.size, 0, none⟩ = some (.string ⟨#[111]⟩) := HX4.out.cell 0
  go_wp2_with fail
  go_ret
  exact ⟨rfl, HB4.out⟩
end Go.Proofs.Ytbpdoiikleaidaa
