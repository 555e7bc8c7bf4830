/- What the program's package pack is held to; the statements' alive, given that. -/
import Derived.Test.YtijfdnaolgbpmaaPI
import Derived.Test.YtijfdnaolgbpmaaPD
set_option linter.unusedVariables false
namespace Go.Proofs.Ytijfdnaolgbpmaa
open Go Go.RowKit Pk

/-- The program's reader behind p: one block; Rep says which cells are which reader. -/
def PdAt (Rep : List Value → Rd → Prop) (w : World) (p : Nat) (r : Rd) : Prop := ∃ cs, Blk w p 66 cs ∧ Rep cs r
def PdPost (Rep : List Value → Rd → Prop) (w : World) (p : Nat) (v : Value) (r : Rd) (x : Ending) (w' : World) : Prop := x = .returned (.tuple #[v, .int .i64 r.E]) ∧ PdAt Rep w' p r ∧ w.grownBy w' (some p)
def PdPostL (Rep : List Value → Rd → Prop) (w : World) (p : Nat) (L : List (List UInt8)) (r : Rd) (x : Ending) (w' : World) : Prop := ∃ v, x = .returned (.tuple #[v, .int .i64 r.E]) ∧ OwnL w.heap.size L v w' ∧ PdAt Rep w' p r ∧ w.grownBy w' (some p)
def PdNew (Rep : List Value → Rd → Prop) (w : World) (s : ByteArray) (x : Ending) (w' : World) : Prop := ∃ p, x = .returned (.pointer (some ⟨p, 0, none⟩)) ∧ w.heap.size ≤ p ∧ PdAt Rep w' p ⟨by' s, 0⟩ ∧ Below w.heap.size w w'
structure PackOK (Rep : List Value → Rd → Prop) : Prop where
  num : ∀ (x n : Int) (w : World), 0 ≤ x → x < 4294967296 → Calls Try.prog 9 #[.int .u32 x, .int .i64 n] w fun e w' => e = .returned (.tuple #[.string (numS x n), .int .i64 (numE x n)]) ∧ Below w.heap.size w w'
  text : ∀ (s : ByteArray) (w : World), s.size ≤ 1099511627776 → Calls Try.prog 11 #[.string s] w fun e w' => e = .returned (.tuple #[.string (txtS s), .int .i64 (txtE (by' s))]) ∧ Below w.heap.size w w'
  texts : ∀ (v : Value) (L : List (List UInt8)) (w : World), SlAt w v L → (cat L).length ≤ 1099511627776 → L.length ≤ 1048576 → Calls Try.prog 13 #[v] w fun e w' => e = .returned (.tuple #[.string (lstS L), .int .i64 (lstE L)]) ∧ Below w.heap.size w w'
  new : ∀ (s : ByteArray) (w : World), s.size ≤ 1099511627776 → Calls Try.prog 16 #[.string s] w (PdNew Rep w s)
  take : ∀ (w : World) (p : Nat) (r : Rd) (n : Int), PdAt Rep w p r → r.S.length ≤ 1099511627776 → Calls Try.prog 17 #[.pointer (some ⟨p, 0, none⟩), .int .i64 n] w (PdPost Rep w p (.string (tx (take r n).1)) (take r n).2)
  rnum : ∀ (w : World) (p : Nat) (r : Rd) (n : Int), PdAt Rep w p r → r.S.length ≤ 1099511627776 → Calls Try.prog 19 #[.pointer (some ⟨p, 0, none⟩), .int .i64 n] w (PdPost Rep w p (.int .u32 ((Pk.num r n).1 : Nat)) (Pk.num r n).2)
  rtext : ∀ (w : World) (p : Nat) (r : Rd), PdAt Rep w p r → r.S.length ≤ 1099511627776 → Calls Try.prog 21 #[.pointer (some ⟨p, 0, none⟩)] w (PdPost Rep w p (.string (tx (Pk.text r).1)) (Pk.text r).2)
  rtexts : ∀ (w : World) (p : Nat) (r : Rd), PdAt Rep w p r → r.S.length ≤ 1099511627776 → Calls Try.prog 23 #[.pointer (some ⟨p, 0, none⟩)] w (PdPostL Rep w p (Pk.texts r).1 (Pk.texts r).2)
  left : ∀ (w : World) (p : Nat) (r : Rd), PdAt Rep w p r → r.S.length ≤ 1099511627776 → Calls Try.prog 27 #[.pointer (some ⟨p, 0, none⟩)] w fun x w' => x = .returned (.int .i64 (r.S.length : Int)) ∧ ∃ n, w' = w.drewN n
  fin : ∀ (w : World) (p : Nat) (r : Rd), PdAt Rep w p r → r.S.length ≤ 1099511627776 → Calls Try.prog 25 #[.pointer (some ⟨p, 0, none⟩)] w fun x w' => x = .returned (.int .i64 (Pk.fin r).E) ∧ PdAt Rep w' p (Pk.fin r) ∧ w.grownBy w' (some p)
  fault : ∀ (w : World) (p : Nat) (r : Rd), PdAt Rep w p r → Calls Try.prog 28 #[.pointer (some ⟨p, 0, none⟩)] w fun x w' => x = .returned (.int .i64 r.E) ∧ ∃ n, w' = w.drewN n
section
variable {Rep : List Value → Rd → Prop} {w w' : World} {p g : Nat} {r : Rd}
theorem PdAt.lt (h : PdAt Rep w p r) : p < w.heap.size := by obtain ⟨cs, hb, _⟩ := h; exact hb.lt
theorem PdAt.grown {row : Option Nat} (h : PdAt Rep w p r) (hg : w.grownBy w' row) (hp : some p ≠ row) : PdAt Rep w' p r := by
  obtain ⟨cs, hb, hr⟩ := h
  exact ⟨cs, hb.grown hg hp, hr⟩
theorem PdAt.below (h : PdAt Rep w p r) (hb : Below w.heap.size w w') : PdAt Rep w' p r := by
  obtain ⟨cs, h1, hr⟩ := h
  exact ⟨cs, h1.below hb h1.lt, hr⟩
theorem PdAt.drewN (h : PdAt Rep w p r) (n : Nat) : PdAt Rep (w.drewN n) p r := h
theorem below_new {w0 : World} {B : Nat} (hb : Below B w0 w) (hg : w.grownBy w' (some p)) (hB : B ≤ w.heap.size) (hp : B ≤ p) : Below B w0 w' := hb.grown hg hB (fun k hk => by cases hk; exact hp)

/-- The reader of a call's own, and what it has done so far. -/
structure Pa (Rep : List Value → Rd → Prop) (w0 : World) (p : Nat) (r : Rd) (w : World) : Prop where
  d : PdAt Rep w p r
  low : Below w0.heap.size w0 w
  gp : w0.heap.size ≤ p
  gs : w0.heap.size ≤ w.heap.size
theorem Pa.next {w0 : World} {r2 : Rd} (a : Pa Rep w0 p r w) (hd : PdAt Rep w' p r2) (hg : w.grownBy w' (some p)) : Pa Rep w0 p r2 w' := ⟨hd, below_new a.low hg a.gs a.gp, a.gp, Nat.le_trans a.gs hg.size⟩
theorem Pa.below {w0 : World} (a : Pa Rep w0 p r w) (hb : Below w.heap.size w w') : Pa Rep w0 p r w' := ⟨a.d.below hb, a.low.trans (hb.mono a.gs), a.gp, Nat.le_trans a.gs hb.size⟩
theorem Pa.drewN {w0 : World} (a : Pa Rep w0 p r w) (n : Nat) : Pa Rep w0 p r (w.drewN n) := a.below (below_drewN w n)

def ex0 : Rd := ⟨[2, 1, 2, 0, 97, 98, 0, 0, 120], 0⟩
def ex1 : Rd := ⟨[2, 0, 97, 98, 0, 0, 120], 0⟩
def ex2 : Rd := ⟨[0, 0, 120], 0⟩
def ex3 : Rd := ⟨[120], 0⟩
def ex4 : Rd := ⟨[120], 7⟩
theorem ex0_num : Pk.num ex0 2 = (258, ex1) := by rfl
theorem ex1_text : Pk.text ex1 = ([97, 98], ex2) := by rfl
theorem ex2_texts : Pk.texts ex2 = ([], ex3) := by rfl
theorem ex3_fin : Pk.fin ex3 = ex4 := by rfl

set_option maxHeartbeats 8000000 in
set_option maxRecDepth 100000 in
theorem palive_any (h : PackOK Rep) (w : World) : Calls Try.prog 8 #[] w fun x w' => x = .returned (.bool true) ∧ Below w.heap.size w w' := by
  have HNum : Hid (∀ w1, Calls Try.prog 9 #[.int .u32 258, .int .i64 2] w1 fun e w' => e = .returned (.tuple #[.string ⟨#[2, 1]⟩, .int .i64 0]) ∧ Below w1.heap.size w1 w') := Lib.hid fun w1 => h.num 258 2 w1 (by decide) (by decide)
  have HText : Hid (∀ w1, Calls Try.prog 11 #[.string ⟨#[97, 98]⟩] w1 fun e w' => e = .returned (.tuple #[.string ⟨#[2, 0, 97, 98]⟩, .int .i64 0]) ∧ Below w1.heap.size w1 w') := Lib.hid fun w1 => h.text ⟨#[97, 98]⟩ w1 (by decide)
  have HTexts : Hid (∀ w1, Calls Try.prog 13 #[.slice none 0 0] w1 fun e w' => e = .returned (.tuple #[.string ⟨#[0, 0]⟩, .int .i64 0]) ∧ Below w1.heap.size w1 w') := Lib.hid fun w1 => h.texts (.slice none 0 0) [] w1 ⟨none, 0, rfl, fun h => absurd rfl h⟩ (by decide) (by decide)
  have HNew : Hid (∀ w1, Calls Try.prog 16 #[.string (⟨#[2, 1]⟩ ++ ⟨#[2, 0, 97, 98]⟩ ++ ⟨#[0, 0]⟩ ++ ⟨#[120]⟩)] w1 fun x w' => ∃ p, x = .returned (.pointer (some ⟨p, 0, none⟩)) ∧ w1.heap.size ≤ p ∧ PdAt Rep w' p ex0 ∧ Below w1.heap.size w1 w') := Lib.hid fun w1 => h.new _ w1 (by decide)
  have HH := Lib.hid h
  go_enter Try.func8, Try.ntmps8
  go_wp2_with fail
  refine (HNum.out _).mono ?_; rintro x w1 ⟨rfl, q1⟩
  have B1 : Hid (Below w.heap.size w w1 ∧ w.heap.size ≤ w1.heap.size) := Lib.hid ⟨q1, q1.size⟩
  clear q1
  go_wp2_with fail
  refine (HText.out _).mono ?_; rintro x w2 ⟨rfl, q2⟩
  have B2 : Hid (Below w.heap.size w w2 ∧ w.heap.size ≤ w2.heap.size) := Lib.hid ⟨B1.out.1.trans (q2.mono B1.out.2), Nat.le_trans B1.out.2 q2.size⟩
  clear q2 B1
  go_wp2_with fail
  refine (HTexts.out _).mono ?_; rintro x w3 ⟨rfl, q3⟩
  have B3 : Hid (Below w.heap.size w w3 ∧ w.heap.size ≤ w3.heap.size) := Lib.hid ⟨B2.out.1.trans (q3.mono B2.out.2), Nat.le_trans B2.out.2 q3.size⟩
  clear q3 B2 HNum HText HTexts h
  go_wp2_with fail
  refine (HNew.out _).mono ?_; rintro x w4 ⟨p, rfl, hp, hd, q4⟩
  have P4 : Hid (Pa Rep w p ex0 w4) := Lib.hid ⟨hd, B3.out.1.trans (q4.mono B3.out.2), Nat.le_trans B3.out.2 hp, Nat.le_trans B3.out.2 q4.size⟩
  clear hp hd q4 B3 HNew
  go_wp2_with fail
  have T4 : Calls Try.prog 19 #[.pointer (some ⟨p, 0, none⟩), .int .i64 2] w4 fun x w' => x = .returned (.tuple #[.int .u32 258, .int .i64 0]) ∧ PdAt Rep w' p ex1 ∧ w4.grownBy w' (some p) := by
    have := HH.out.rnum _ p ex0 2 P4.out.d (by decide)
    rw [ex0_num] at this
    exact this
  refine T4.mono ?_
  clear T4
  rintro x w5 ⟨rfl, d5, g5⟩
  have P5 := Lib.hid (P4.out.next d5 g5)
  clear d5 g5 P4
  go_wp2_with fail
  have T5 : Calls Try.prog 21 #[.pointer (some ⟨p, 0, none⟩)] w5 fun x w' => x = .returned (.tuple #[.string ⟨#[97, 98]⟩, .int .i64 0]) ∧ PdAt Rep w' p ex2 ∧ w5.grownBy w' (some p) := by
    have := HH.out.rtext _ p ex1 P5.out.d (by decide)
    rw [ex1_text] at this
    exact this
  refine T5.mono ?_
  clear T5
  rintro x w6 ⟨rfl, d6, g6⟩
  have P6 := Lib.hid (P5.out.next d6 g6)
  clear d6 g6 P5
  go_wp2_with fail
  have T6 : Calls Try.prog 23 #[.pointer (some ⟨p, 0, none⟩)] w6 fun x w' => (∃ v, x = .returned (.tuple #[v, .int .i64 0]) ∧ OwnL w6.heap.size [] v w' ∧ PdAt Rep w' p ex3 ∧ w6.grownBy w' (some p)) := by
    have := HH.out.rtexts _ p ex2 P6.out.d (by decide)
    rw [ex2_texts] at this
    exact this
  refine T6.mono ?_
  clear T6
  rintro x w7 ⟨v, rfl, o7, d7, g7⟩
  have P7 := Lib.hid (P6.out.next d7 g7)
  have hv : ∃ a c, v = .slice a 0 c := by obtain ⟨a, c, h, _⟩ := o7.slAt; exact ⟨a, c, h⟩
  obtain ⟨a, c, rfl⟩ := hv
  clear d7 g7 P6 o7
  go_wp2_with fail
  have T7 : Calls Try.prog 27 #[.pointer (some ⟨p, 0, none⟩)] w7 fun x w' => x = .returned (.int .i64 1) ∧ ∃ n, w' = w7.drewN n := HH.out.left _ p ex3 P7.out.d (by decide)
  refine T7.mono ?_
  clear T7
  rintro x w8 ⟨rfl, m8, e8⟩
  have P8 : Hid (Pa Rep w p ex3 w8) := Lib.hid (by rw [e8]; exact P7.out.drewN _)
  clear e8 P7
  go_wp2_with fail
  have T8 : Calls Try.prog 25 #[.pointer (some ⟨p, 0, none⟩)] w8 fun x w' => x = .returned (.int .i64 7) ∧ PdAt Rep w' p ex4 ∧ w8.grownBy w' (some p) := by
    have := HH.out.fin _ p ex3 P8.out.d (by decide)
    rw [ex3_fin] at this
    exact this
  refine T8.mono ?_
  clear T8
  rintro x w9 ⟨rfl, d9, g9⟩
  have P9 := Lib.hid (P8.out.next d9 g9)
  clear d9 g9 P8
  go_wp2_with fail
  have T9 : Calls Try.prog 28 #[.pointer (some ⟨p, 0, none⟩)] w9 fun x w' => x = .returned (.int .i64 7) ∧ ∃ n, w' = w9.drewN n := HH.out.fault _ p ex4 P9.out.d
  refine T9.mono ?_
  clear T9
  rintro x w10 ⟨rfl, m10, e10⟩
  have P10 : Hid (Pa Rep w p ex4 w10) := Lib.hid (by rw [e10]; exact P9.out.drewN _)
  clear e10 P9
  go_wp2
  go_ret
  exact ⟨rfl, P10.out.low⟩
end
end Go.Proofs.Ytijfdnaolgbpmaa
