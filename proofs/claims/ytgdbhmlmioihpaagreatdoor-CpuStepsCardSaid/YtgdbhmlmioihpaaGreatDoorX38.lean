/- Some texts of one proof, one behind the other; each has its own head below. -/
import Derived.Test.YtgdbhmlmioihpaaGreatDoorX37
import Derived.Test.YtgdbhmlmioihpaaGreatDoorX05
import Derived.Test.YtgdbhmlmioihpaaGreatDoorX02
import Derived.Test.YtgdbhmlmioihpaaGreatDoorX30
import Derived.Test.YtgdbhmlmioihpaaGreatDoorX20
import Derived.Test.YtgdbhmlmioihpaaGreatDoorX36
/- A space and its copy, and the pages that were told of them. -/
section
set_option linter.unusedVariables false
namespace Go.Proofs.YtgdbhmlmioihpaaGreatDoor
open Go.RowKit Go.Maps

/-- A row of numbers that a slice leads to. -/
def WordsAt (w : World) (a : Option Addr) (l : List Int) : Prop := l = [] ∨ ∃ g R, a = some ⟨g, 0, none⟩ ∧ Row [] R w g 0 l.toArray
theorem Words.split {w : World} {b : Nat} {v : Value} {l : List Int} (h : Words w b v l) : ∃ a c, v = .slice a l.length c ∧ WordsAt w a l := by
  rcases h with ⟨rfl, rfl⟩ | ⟨g, cap, R, rfl, _, hR⟩
  · exact ⟨none, 0, rfl, .inl rfl⟩
  · exact ⟨_, _, rfl, .inr ⟨g, R, rfl, hR⟩⟩
theorem WordsAt.below {w w' : World} {a : Option Addr} {l : List Int} (h : WordsAt w a l) (hb : Below w.heap.size w w') : WordsAt w' a l := by
  rcases h with h | ⟨g, R, h1, h2⟩
  · exact .inl h
  · exact .inr ⟨g, R, h1, h2.below hb h2.lt⟩
theorem same_at {w : World} {a a' : Option Addr} {c c' : Nat} {l : List Int} (h : WordsAt w a l) (h' : WordsAt w a' l) (hl : l.length < 1099511627776) :
    Calls Tryz.prog 19 #[.slice a l.length c, .slice a' l.length c'] w fun e w' => e = .returned (.bool true) ∧ ∃ n, w' = w.drewN n := by
  rcases h with rfl | ⟨g, R, rfl, hR⟩
  · exact same_empty _ _ _ _ w
  · rcases h' with rfl | ⟨g', R', rfl, hR'⟩
    · exact same_empty _ _ _ _ w
    · exact same_row g g' c c' R R' l.toArray w hR hR' (by simpa using hl)

/-- The space and its copy. -/
structure KInv (w0 : World) (G e n : Nat) (A2 : As) (C e' : Nat) (A : As) (w : World) : Prop where
  m : SpaceAt w G e n A2
  c : SpaceAt w C e' n A
  ec : e ≤ C
  low : Below G w0 w
  gs : G ≤ w.heap.size
section
variable {w0 w w' : World} {G e n C e' : Nat} {A A2 A3 : As}
theorem KInv.below (h : KInv w0 G e n A2 C e' A w) (hb : Below w.heap.size w w') : KInv w0 G e n A2 C e' A w' :=
  ⟨h.m.below hb h.m.hi, h.c.below hb h.c.hi, h.ec, h.low.trans (hb.mono h.gs), Nat.le_trans h.gs hb.size⟩
theorem KInv.turn (h : KInv w0 G e n A2 C e' A w) (t : Turn w w' G e) (h2 : SpaceAt w' G e n A3) : KInv w0 G e n A3 C e' A w' := by
  have h1 := h.m.lo
  have h3 := h.c.hi
  have h4 := h.ec
  exact ⟨h2, h.c.same t.size (fun j hj1 hj2 => t.block j (by omega) (by rintro (rfl | ⟨_, _, _⟩) <;> omega)), h.ec, h.low.trans (t.below (Nat.le_refl _) h.gs), Nat.le_trans h.gs t.size⟩
end
/-- And the pages that were told. -/
def KW (w0 : World) (G e n : Nat) (A2 : As) (C e' : Nat) (A : As) (a : Option Addr) (l : List Int) (w : World) : Prop := KInv w0 G e n A2 C e' A w ∧ WordsAt w a l
theorem KW.below {w0 w w' : World} {G e n C e' : Nat} {A A2 : As} {a : Option Addr} {l : List Int} (h : KW w0 G e n A2 C e' A a l w) (hb : Below w.heap.size w w') : KW w0 G e n A2 C e' A a l w' := ⟨h.1.below hb, h.2.below hb⟩

theorem KW.cell {w0 w : World} {G e n C e' g j x : Nat} {A A2 : As} {l : List Int} (h : KW w0 G e n A2 C e' A (some ⟨g, 0, none⟩) l w) (hj : j < l.length) (hx : l.toArray[j]! = (x : Int)) : w.cell? ⟨g, j, none⟩ = some (.int .u32 (x : Int)) := by
  rcases h.2 with rfl | ⟨g', R, he, hR⟩
  · exact absurd hj (by simp)
  · simp only [Option.some.injEq, Addr.mk.injEq, and_true] at he
    subst he
    have := hR.cell j (by simpa using hj)
    rw [Nat.zero_add, hx] at this
    exact this
theorem KW.at {w0 w : World} {G e n C e' j : Nat} {A A2 : As} {a : Option Addr} {l : List Int} (h : KW w0 G e n A2 C e' A a l w) (hj : j < l.length) : ∃ g, a = some ⟨g, 0, none⟩ := by
  rcases h.2 with rfl | ⟨g', R, he, hR⟩
  · exact absurd hj (by simp)
  · exact ⟨g', he⟩

end Go.Proofs.YtgdbhmlmioihpaaGreatDoor
end

/- Same: a space is the document's, where both are the same pages. -/
section
set_option linter.unusedVariables false
namespace Go.Proofs.YtgdbhmlmioihpaaGreatDoor
open Go.RowKit Go.Maps

theorem conv_page {w : World} {B : Nat} {e : RP} {f : Pg} (h : PageAt w B e f) {A : As} (hA : A e.i = some f) : (convert 24 9 (.slice (some ⟨e.q, 0, none⟩) 256 e.c)).run Tryz.prog w = .ok (.string ⟨(bytesAt A (256 * e.i) 256).toArray⟩) w := by
  have hl : (bytesAt A (256 * e.i) 256).length = 256 := bytesAt_length _ _ _
  have hb : Lib.byteCells (bytesAt A (256 * e.i) 256) = bcs f := by
    apply List.ext_getElem?
    intro j
    by_cases hj : j < 256
    · rw [bcs_get f j hj]
      unfold Lib.byteCells
      rw [List.getElem?_map, bytesAt_get _ _ _ _ hj, byteAt_pg hA hj]
      rfl
    · rw [List.getElem?_eq_none (by rw [Lib.byteCells_length, hl]; omega), List.getElem?_eq_none (by rw [bcs_length]; omega)]
  have h9 := h.bytes
  unfold Blk at h9
  have := run_convert_bytes_back (P := Tryz.prog) w 24 9 5 ⟨e.q, 0, none⟩ e.c (bytesAt A (256 * e.i) 256) Tryz.underlying24 Tryz.underlying5 Tryz.underlying9 (Lib.bytes_of_row h9 (by
    rw [hl, hb]
    show (bcs f ++ e.R).take 256 = bcs f
    rw [List.take_append_of_le_length (by rw [bcs_length]; exact Nat.le_refl _), List.take_of_length_le (by rw [bcs_length]; exact Nat.le_refl _)]))
  rw [hl] at this
  exact this

set_option maxHeartbeats 8000000 in
set_option maxRecDepth 100000 in
theorem same_any (B b e n g : Nat) (A : As) (w : World) (hs : SpaceAt w b e n A) (hn : n < 256) (hr : RefAt w B g A) :
    Calls Tryz.prog 12 #[.pointer (some ⟨b + 1, 0, none⟩), .pointer (some ⟨g, 0, none⟩)] w fun r w' => r = .returned (.bool true) ∧ Below w.heap.size w w' := by
  obtain ⟨a, c, L, h⟩ := hr
  have HLen := Lib.hid h.len
  have HPl := Lib.hid (pagesOf_size A)
  obtain ⟨N, hN⟩ : ∃ N, N = L.length := ⟨_, rfl⟩
  have HN := Lib.hid hN
  obtain ⟨W0, hW0⟩ : ∃ W0, W0 = w.heap.size := ⟨_, rfl⟩
  have HW0 := Lib.hid hW0
  rw [← hW0]
  have HI0 : Hid (Below W0 w w) := Lib.hid (by rw [hW0]; exact Below.refl _ _)
  have HSp : Hid (∀ w', Below W0 w w' → SpaceAt w' b e n A) := Lib.hid fun w' h2 => hs.below h2 (by rw [hW0]; exact hs.hi)
  have HRf : Hid (∀ w', Below W0 w w' → RefP w' B g a c L A) := Lib.hid fun w' h2 => h.below (by rw [← hW0]; exact h2)
  have HNN := Lib.hid hn
  clear hs h hn hN hW0
  go_enter Tryz.func12, Tryz.ntmps12
  go_wp2_with fail
  refine (pages_any b e n A w (HSp.out _ HI0.out) HNN.out).mono ?_; rintro r w1 ⟨v1, rfl, hv1, q1⟩
  obtain ⟨a1, c1, rfl, ha1⟩ := hv1.split
  have HB1 : Hid (Below W0 w w1) := Lib.hid (by rw [HW0.out]; exact q1)
  have HV1 := Lib.hid ha1
  clear hv1 ha1 q1
  go_wp2_with fail
  refine (rpages_any B g A w1 ⟨_, _, _, HRf.out _ HB1.out⟩).mono ?_; rintro r w2 ⟨⟨v2, rfl, hv2⟩, q2⟩
  obtain ⟨a2, c2, rfl, ha2⟩ := hv2.split
  have HB2 : Hid (Below W0 w w2) := Lib.hid (HB1.out.trans (q2.mono (by rw [HW0.out]; exact HB1.out.size)))
  have HV2 := Lib.hid ha2
  have HV1' := Lib.hid (HV1.out.below q2)
  clear hv2 ha2 q2 HV1
  go_wp2_with fail
  refine (same_at HV1'.out HV2.out (by have := HPl.out; omega)).mono ?_; rintro r w3 ⟨rfl, nq, rfl⟩
  have HB3 : Hid (Below W0 w (w2.drewN nq)) := Lib.hid (drewN_drewN HB2.out nq)
  clear HV1' HV2
  go_wp2_with fail
  go_loopw [5] (fun v wr => ∃ j : Nat, v = .int .i64 j ∧ Hid (j ≤ N) ∧ Hid (Below W0 w wr)) (fun v _ => N - (intOf v).toNat)
  case atStart => exact ⟨0, rfl, Lib.hid (Nat.zero_le _), HB3⟩
  case round =>
    obtain ⟨j, rfl, HJ, HB⟩ := hrel
    clear HB3 HB2 HB1 HI0
    have hc := (HRf.out _ HB.out).cell0
    rw [← HN.out] at hc
    by_cases hlt : (j : Int) < (N : Int)
    · have hj : j < L.length := by have := HN.out; omega
      obtain ⟨k, rfl, hk⟩ := (HRf.out _ HB.out).addr hj
      obtain ⟨x, he⟩ : ∃ x, L.getD j RP.nought = x := ⟨_, rfl⟩
      have hm : x ∈ L := by rw [← he]; exact (HRf.out _ HB.out).mem hj
      obtain ⟨f, hA, hPf⟩ := (HRf.out _ HB.out).page x hm
      obtain ⟨q1, q2, q3⟩ := look_page (A := A) hPf.lt (by rw [hA]; rfl)
      obtain ⟨ad, had⟩ : ∃ ad : Nat, ad = 256 * x.i := ⟨_, rfl⟩
      obtain ⟨T, hT⟩ : ∃ T, T = getS A 0 ad 256 := ⟨_, rfl⟩
      obtain ⟨pm, hpm⟩ : ∃ pm : Nat, pm = (f 256).toNat := ⟨_, rfl⟩
      have hdiv : ad / 256 = x.i := by omega
      have hT2 : T = ⟨(bytesAt A (256 * x.i) 256).toArray⟩ := by rw [hT, had]; unfold getS; rw [if_pos q1]; rfl
      have HLk : Hid (∀ w', Below W0 w w' → Calls Tryz.prog 20 #[.pointer (some ⟨b + 1, 0, none⟩), .int .u32 (ad : Int), .int .i64 256] w' fun r w2 => r = .returned (.tuple #[.string T, .int .i64 0]) ∧ Below w'.heap.size w' w2) := Lib.hid fun w' h => by
        have := look_any b e n A ad 256 (by have := hPf.lt; omega) w' (HSp.out w' h)
        rw [← hT, had, q1, ← had] at this
        exact this
      have HPr : Hid (∀ w', Below W0 w w' → Calls Tryz.prog 21 #[.pointer (some ⟨b + 1, 0, none⟩), .int .u32 (ad : Int)] w' fun r w2 => r = .returned (.tuple #[.int .u8 (pm : Int), .bool true]) ∧ w2 = w') := Lib.hid fun w' h => by
        have := perm_any b e n A ad (by have := hPf.lt; omega) w' (HSp.out w' h)
        have e1 : permV A ad = pm := by unfold permV; rw [hdiv, hA, hpm]
        rw [e1, hdiv, hA] at this
        exact this
      have HCs : Hid (∀ w', Below W0 w w' → w'.cell? ⟨g, 0, none⟩ = some (.slice (some ⟨k, 0, none⟩) N c) ∧ w'.cell? ⟨k, j, none⟩ = some (.pointer (some ⟨x.p, 0, none⟩)) ∧ w'.cell? ⟨x.p, 0, none⟩ = some (.int .u32 (ad : Int)) ∧ w'.cell? ⟨x.p, 1, none⟩ = some (.int .u8 (pm : Int)) ∧ w'.cell? ⟨x.p, 2, none⟩ = some (.slice (some ⟨x.q, 0, none⟩) 256 x.c) ∧
          (convert 24 9 (.slice (some ⟨x.q, 0, none⟩) 256 x.c)).run Tryz.prog w' = .ok (.string T) w') := Lib.hid fun w' h => by
        have h1 := HRf.out w' h
        obtain ⟨f2, q5, q6⟩ := h1.page x hm
        have hf : f2 = f := by rw [hA] at q5; exact (Option.some.inj q5).symm
        subst hf
        obtain ⟨k2, q7, q8⟩ := h1.addr hj
        simp only [Option.some.injEq, Addr.mk.injEq] at q7
        obtain ⟨rfl, _⟩ := q7
        have q9 := q8 j hj
        rw [he] at q9
        have qc := h1.cell0
        rw [← HN.out] at qc
        refine ⟨qc, q9, by rw [q6.head.cell, had]; simp, by rw [q6.head.cell, hpm]; rfl, by rw [q6.head.cell]; rfl, ?_⟩
        rw [hT2]
        exact conv_page q6 hA
      have HJ2 : Hid (j + 1 ≤ N) := Lib.hid (by omega)
      have m3 : IntKind.i64.wrap ((j : Int) + 1) = (j : Int) + 1 := by rw [IntKind.wrap_i64]; have := HN.out; have := HLen.out; omega
      clear hk he hm hA hPf q1 q2 q3 had hT hpm hdiv hT2 hj hc
      obtain ⟨d0, d1, d2, d3, d4, d5⟩ := HCs.out _ HB.out
      go_wp2_with fail
      refine (HPr.out _ HB.out).mono ?_; rintro r w4 ⟨rfl, rfl⟩
      go_wp2_with fail
      refine (HLk.out _ HB.out).mono ?_; rintro r w5 ⟨rfl, q⟩
      have HB5 : Hid (Below W0 w w5) := Lib.hid (HB.out.trans (q.mono (by rw [HW0.out]; exact HB.out.size)))
      clear d0 d1 d2 d3 d4 d5 q HB
      obtain ⟨d0, d1, d2, d3, d4, d5⟩ := HCs.out _ HB5.out
      go_wp2_with fail
      go_roundw
      case rel => exact ⟨j + 1, by go_num, HJ2, HB5⟩
      case measure => simp [intOf]; have := HJ2.out; omega
    · go_wp2
      go_ret
      exact ⟨rfl, HB.out⟩
end Go.Proofs.YtgdbhmlmioihpaaGreatDoor
end
