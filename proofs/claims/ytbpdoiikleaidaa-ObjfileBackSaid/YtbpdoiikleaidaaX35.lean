/- The program's writing: numbers, counts, texts, a Rel, a Note. -/
import Derived.Test.YtbpdoiikleaidaaX34
import Derived.Test.YtbpdoiikleaidaaX12
import Derived.Test.YtbpdoiikleaidaaX21
import Derived.Test.YtbpdoiikleaidaaX22
set_option linter.unusedVariables false
set_option linter.unusedSimpArgs false
namespace Go.Proofs.Ytbpdoiikleaidaa
open Go Go.RowKit Oj Pk Of

/-- What a call that writes x leaves. -/
def WPost (w0 w : World) (b : Nat) (l x : List UInt8) (e : Ending) (w' : World) : Prop := e = .returned (.tuple #[]) ∧ Wt w0 w' b (l ++ x) ∧ Kept w w'
section
variable {w0 : World} {b : Nat} {l : List UInt8}
theorem wnum_any (x : Int) (n : Nat) (h0 : 0 ≤ x) (h1 : x < 4294967296) (hn1 : 1 ≤ n) (hn4 : n ≤ 4) (hx : x.toNat < 256 ^ n) (w : World) (h : Wt w0 w b l) (hl : l.length ≤ 8388608) :
    Calls Try.prog 57 #[.pointer (some ⟨b, 0, none⟩), .int .u32 x, .int .i64 (n : Int)] w (WPost w0 w b l (Wd.le x.toNat n)) := by
  have HN := Lib.hid (pnum_any x (n : Int) w h0 h1)
  have e1 : numE x (n : Int) = 0 := by
    unfold numE Wd.putE
    rw [if_neg (by omega), if_neg]
    simp only [Int.toNat_natCast]
    omega
  have e2 : numS x (n : Int) = tx (Wd.le x.toNat n) := by
    have : Wd.putE x.toNat (n : Int) = 0 := e1
    unfold numS Wd.putL
    rw [this, if_pos rfl]
    simp
  rw [e1, e2] at HN
  have HW := Lib.hid (fun W (q : Wt w0 W b l) => q.writes (Wd.le x.toNat n) (by rw [Wd.le_length]; omega))
  have H := Lib.hid h
  obtain ⟨T, hT⟩ : ∃ T, T = Wd.le x.toNat n := ⟨_, rfl⟩
  rw [← hT] at HN HW ⊢
  clear e1 e2 hx h0 h1 hn1 hn4 hl h hT
  go_enter Try.func57, Try.ntmps57
  go_wp2_with fail
  refine HN.out.mono ?_; rintro e w1 ⟨rfl, q⟩
  have H1 := Lib.hid (H.out.below q)
  have K1 := Lib.hid (Kept.of_below q)
  clear q HN H
  go_wp2_with fail
  refine (HW.out _ H1.out).mono ?_; rintro e w2 ⟨rfl, q, k⟩
  have H2 := Lib.hid q
  have K2 := Lib.hid k
  clear q k HW
  go_wp2_with fail
  go_end0
  exact ⟨rfl, H2.out, K1.out.trans K2.out⟩
theorem wnum1 (x : Int) (h0 : 0 ≤ x) (h1 : x < 256) (w : World) (h : Wt w0 w b l) (hl : l.length ≤ 8388608) : Calls Try.prog 57 #[.pointer (some ⟨b, 0, none⟩), .int .u32 x, .int .i64 1] w (WPost w0 w b l (Wd.le x.toNat 1)) := wnum_any x 1 h0 (by omega) (by decide) (by decide) (by rw [pow1]; omega) w h hl
theorem wnum2 (x : Int) (h0 : 0 ≤ x) (h1 : x < 65536) (w : World) (h : Wt w0 w b l) (hl : l.length ≤ 8388608) : Calls Try.prog 57 #[.pointer (some ⟨b, 0, none⟩), .int .u32 x, .int .i64 2] w (WPost w0 w b l (Wd.le x.toNat 2)) := wnum_any x 2 h0 (by omega) (by decide) (by decide) (by rw [pow2]; omega) w h hl
theorem wnum4 (x : Int) (h0 : 0 ≤ x) (h1 : x < 4294967296) (w : World) (h : Wt w0 w b l) (hl : l.length ≤ 8388608) : Calls Try.prog 57 #[.pointer (some ⟨b, 0, none⟩), .int .u32 x, .int .i64 4] w (WPost w0 w b l (Wd.le x.toNat 4)) := wnum_any x 4 h0 h1 (by decide) (by decide) (by rw [pow4]; omega) w h hl
theorem wcount2 (k : Nat) (hk : k < 65536) (w : World) (h : Wt w0 w b l) (hl : l.length ≤ 8388608) : Calls Try.prog 37 #[.pointer (some ⟨b, 0, none⟩), .int .i64 (k : Int), .int .i64 2] w (WPost w0 w b l (Wd.le k 2)) := by
  have HW := Lib.hid (wnum2 (k : Int) (by omega) (by omega) w h hl)
  have hki : (k : Int) < 65536 := by omega
  simp only [Int.toNat_natCast] at HW
  clear hk h hl
  go_enter Try.func37, Try.ntmps37
  go_wp2_with fail
  refine HW.out.mono ?_; rintro e w2 ⟨rfl, q, k⟩
  have H2 := Lib.hid q
  have K2 := Lib.hid k
  clear q k HW
  go_wp2_with fail
  go_end0
  exact ⟨rfl, H2.out, K2.out⟩
theorem wcount1 (k : Nat) (hk : k < 256) (w : World) (h : Wt w0 w b l) (hl : l.length ≤ 8388608) : Calls Try.prog 37 #[.pointer (some ⟨b, 0, none⟩), .int .i64 (k : Int), .int .i64 1] w (WPost w0 w b l (Wd.le k 1)) := by
  have HW := Lib.hid (wnum1 (k : Int) (by omega) (by omega) w h hl)
  have hki : (k : Int) < 256 := by omega
  simp only [Int.toNat_natCast] at HW
  clear hk h hl
  go_enter Try.func37, Try.ntmps37
  go_wp2_with fail
  refine HW.out.mono ?_; rintro e w2 ⟨rfl, q, k⟩
  have H2 := Lib.hid q
  have K2 := Lib.hid k
  clear q k HW
  go_wp2_with fail
  go_end0
  exact ⟨rfl, H2.out, K2.out⟩
theorem wtext_any (s : List UInt8) (hs : s.length ≤ 65535) (w : World) (h : Wt w0 w b l) (hl : l.length ≤ 8388608) : Calls Try.prog 36 #[.pointer (some ⟨b, 0, none⟩), .string (tx s)] w (WPost w0 w b l (txt s)) := by
  have HN := Lib.hid (ptext_any (tx s) (by rw [tx_size]; omega) w)
  have e1 : txtE (by' (tx s)) = 0 := by unfold txtE; rw [if_neg (by rw [by_tx]; omega)]
  have e2 : txtS (tx s) = tx (txt s) := by unfold txtS; rw [e1, if_pos rfl, by_tx]
  rw [e1, e2] at HN
  have HW := Lib.hid (fun W (q : Wt w0 W b l) => q.writes (txt s) (by unfold txt; rw [List.length_append, Wd.le_length]; omega))
  have H := Lib.hid h
  obtain ⟨T, hT⟩ : ∃ T, T = txt s := ⟨_, rfl⟩
  obtain ⟨S, hS⟩ : ∃ S, S = tx s := ⟨_, rfl⟩
  rw [← hS] at HN ⊢
  rw [← hT] at HN HW ⊢
  clear e1 e2 hs h hl hT hS
  go_enter Try.func36, Try.ntmps36
  go_wp2_with fail
  refine HN.out.mono ?_; rintro e w1 ⟨rfl, q⟩
  have H1 := Lib.hid (H.out.below q)
  have K1 := Lib.hid (Kept.of_below q)
  clear q HN H
  go_wp2_with fail
  refine (HW.out _ H1.out).mono ?_; rintro e w2 ⟨rfl, q, k⟩
  have H2 := Lib.hid q
  have K2 := Lib.hid k
  clear q k HW
  go_wp2_with fail
  go_end0
  exact ⟨rfl, H2.out, K1.out.trans K2.out⟩
end
end Go.Proofs.Ytbpdoiikleaidaa
