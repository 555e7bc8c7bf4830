/- The program's writing: an object; Put. -/
import Derived.Test.YtbpdoiikleaidaaX37
set_option linter.unusedVariables false
set_option linter.unusedSimpArgs false
namespace Go.Proofs.Ytbpdoiikleaidaa
open Go Go.RowKit Oj Pk Of

section
variable {w0 : World} {b : Nat} {l : List UInt8}
set_option maxHeartbeats 8000000 in
set_option maxRecDepth 100000 in
theorem wobj_any (x : Ob) (hx : inO x) (v : Value) (w : World) (hA : ObAt w0 v x) (h : Wt w0 w b l) (hl : l.length + (encO x).length ≤ 4194304) :
    Calls Try.prog 17 #[.pointer (some ⟨b, 0, none⟩), v] w (WPost w0 w b l (encO x)) := by
  obtain ⟨nm, L⟩ := x
  obtain ⟨vs, rfl, hS⟩ := hA
  obtain ⟨n1, nl, nI⟩ := hx
  simp only at n1 nl nI hS ⊢
  have hlen : (encO ⟨nm, L⟩).length = 4 + (2 + nm.length) + 2 + (encSs L).length := by
    unfold encO txt magic; simp only [List.length_append, Wd.le_length, List.length_cons, List.length_nil]; omega
  rw [hlen] at hl
  have hm : magic.length = 4 := rfl
  have HC0 : Hid (∀ W, Wt w0 W b l → Calls Try.prog 35 #[.pointer (some ⟨b, 0, none⟩), .string ⟨#[65, 79, 66, 49]⟩] W fun e w' => e = .returned (.tuple #[.int .i64 4, .nilIface]) ∧ Wt w0 w' b (l ++ magic) ∧ Kept W w') := Lib.hid (fun W q => q.writes magic (by omega))
  have HC1 := Lib.hid (fun W (q : Wt w0 W b (l ++ magic)) => wtext_any nm n1 W q (by simp only [List.length_append]; omega))
  have HC2 := Lib.hid (fun W (q : Wt w0 W b (l ++ magic ++ txt nm)) => wcount2 L.length nl W q (by simp only [List.length_append, Wd.le_length, txt]; omega))
  obtain ⟨L3, hL3⟩ : ∃ T, T = l ++ magic ++ txt nm ++ Wd.le L.length 2 := ⟨_, rfl⟩
  have hl3 : L3.length = l.length + 4 + (2 + nm.length) + 2 := by rw [hL3]; simp only [List.length_append, Wd.le_length, txt]; omega
  have HSy := Lib.hid (fun k (hk : k < L.length) (v : Value) W (hv : SymAt w0 v (L.getD k Sy.nought)) (q : Wt w0 W b (L3 ++ ((L.take k).map encS).flatten)) => wsym_any (L.getD k Sy.nought) (nI _ (getD_mem hk)) v W hv q (by
    have e1 := enc_snoc encS L Sy.nought k hk
    have e2 := enc_take_len encS L (k + 1)
    rw [e1, List.length_append] at e2
    rw [List.length_append]
    unfold encSs at hl
    omega))
  have HL3 := Lib.hid hL3.symm
  have HE : Hid (∀ k, k = L.length → L3 ++ ((L.take k).map encS).flatten = l ++ encO ⟨nm, L⟩) := Lib.hid (fun k hk => by rw [hL3, hk, List.take_length]; simp only [encO, encSs, List.append_assoc])
  have HT : Hid (∀ k, k < L.length → L3 ++ ((L.take k).map encS).flatten ++ encS (L.getD k Sy.nought) = L3 ++ ((L.take (k + 1)).map encS).flatten) := Lib.hid (fun k hk => by rw [enc_snoc encS L Sy.nought k hk, List.append_assoc])
  obtain ⟨a, c, rfl, h2⟩ := hS.get
  obtain ⟨n, hn⟩ : ∃ n, n = L.length := ⟨_, rfl⟩
  rw [← hn] at h2 HC2 HSy HL3 HE HT nl ⊢
  obtain ⟨M, hM⟩ : ∃ M, M = tx nm := ⟨_, rfl⟩
  obtain ⟨s0, e0⟩ : ∃ x, x = txt nm := ⟨_, rfl⟩
  simp only [← hM, ← e0] at HC1 HC2 HL3 ⊢
  obtain ⟨Z, hZ⟩ : ∃ Z, Z = encO ⟨nm, L⟩ := ⟨_, rfl⟩
  rw [← hZ] at HE ⊢
  have hni : (n : Int) ≤ 65536 := by omega
  have H2 := Lib.hid h2
  have HB0 := Lib.hid (Blk.new w 24 [.string M, .slice a n c])
  have H0 := Lib.hid (h.below (below_box (Below.refl w.heap.size w) (.cells #[.string M, .slice a n c] 24)))
  have K0 := Lib.hid (Kept.of_below (below_box (Below.refl w.heap.size w) (.cells #[.string M, .slice a n c] 24)))
  clear hS hl hlen hl3 hL3 hn hM e0 hZ hm h2 h n1 nl nI
  go_enter Try.func17, Try.ntmps17
  go_wp2_with fail
  refine (HC0.out _ H0.out).mono ?_; rintro e w1 ⟨rfl, q, k⟩
  have H1 := Lib.hid q
  have K1 := Lib.hid (K0.out.trans k)
  have HB1 := Lib.hid (k _ _ _ HB0.out (by decide) (by decide))
  clear q k HC0 H0 K0 HB0
  have c0 : w1.cell? ⟨w.heap.size, 0, none⟩ = some (.string M) := HB1.out.cell 0
  have c1 : w1.cell? ⟨w.heap.size, 1, none⟩ = some (.slice a n c) := HB1.out.cell 1
  go_wp2_with fail
  refine (HC1.out _ H1.out).mono ?_; rintro e w2 ⟨rfl, q, k⟩
  have H2' := Lib.hid q
  have K2 := Lib.hid (K1.out.trans k)
  have HB2 := Lib.hid (k _ _ _ HB1.out (by decide) (by decide))
  clear q k HC1 H1 K1 HB1 c0 c1
  have c0 : w2.cell? ⟨w.heap.size, 0, none⟩ = some (.string M) := HB2.out.cell 0
  have c1 : w2.cell? ⟨w.heap.size, 1, none⟩ = some (.slice a n c) := HB2.out.cell 1
  go_wp2_with fail
  refine (HC2.out _ H2'.out).mono ?_; rintro e w3 ⟨rfl, q, k⟩
  have H3 := Lib.hid q
  rw [HL3.out] at H3
  have K3 := Lib.hid (K2.out.trans k)
  have HB3 := Lib.hid (k _ _ _ HB2.out (by decide) (by decide))
  clear q k HC2 H2' K2 HB2 c0 c1 HL3
  have c0 : w3.cell? ⟨w.heap.size, 0, none⟩ = some (.string M) := HB3.out.cell 0
  have c1 : w3.cell? ⟨w.heap.size, 1, none⟩ = some (.slice a n c) := HB3.out.cell 1
  go_wp2_with fail
  clear c0 c1
  go_loopw [22] (fun i wr => ∃ k : Nat, (k : Int) ≤ n ∧ i = .int .i64 k ∧ Hid (Wt w0 wr b (L3 ++ ((L.take k).map encS).flatten)) ∧ Hid (Kept w wr)) (fun i _ => n - (intOf i).toNat)
  case atStart => exact ⟨0, by omega, rfl, Lib.hid (by simpa using H3.out), K3⟩
  case round =>
    clear H3 K3 HB3
    obtain ⟨k, hk, rfl, HWk, HKk⟩ := hrel
    by_cases hlt : k < n
    · have hd : decide (k < n) = true := decide_eq_true hlt
      obtain ⟨bb, oo, rfl, hbl, hcl⟩ := H2.out (by omega)
      obtain ⟨vr, vn, hL, hr, hn'⟩ := hcl k hlt
      obtain ⟨s, hs⟩ : ∃ s, s = L.getD k Sy.nought := ⟨_, rfl⟩
      rw [← hs] at hL hr hn'
      have hbr : bb < wr.heap.size := Nat.lt_of_lt_of_le hbl HWk.out.low.size
      obtain ⟨d0, d1, d2, d3, d4, d5, d6⟩ := (hL.below HWk.out.low hbl).sy
      have HCk := Lib.hid (fun W q => HSy.out k hlt (.agg #[.string (tx s.name), .int .u8 s.bind, .int .u8 s.kind, .int .u32 s.size, .string (tx s.bytes), vr, vn]) W (by rw [← hs]; exact SymAt.mk hr hn') q)
      have HTk := Lib.hid (HT.out k hlt)
      rw [← hs] at HCk HTk
      obtain ⟨ra, rc, hrv, _⟩ := hr
      obtain ⟨na, nc, hnv, _⟩ := hn'
      obtain ⟨u0, g0⟩ : ∃ u, u = tx s.name := ⟨_, rfl⟩
      obtain ⟨u1, g1⟩ : ∃ u, u = s.bind := ⟨_, rfl⟩
      obtain ⟨u2, g2⟩ : ∃ u, u = s.kind := ⟨_, rfl⟩
      obtain ⟨u3, g3⟩ : ∃ u, u = s.size := ⟨_, rfl⟩
      obtain ⟨u4, g4⟩ : ∃ u, u = tx s.bytes := ⟨_, rfl⟩
      obtain ⟨rn, hrn⟩ : ∃ x, x = s.rels.length := ⟨_, rfl⟩
      obtain ⟨nn, hnn⟩ : ∃ x, x = s.notes.length := ⟨_, rfl⟩
      rw [← hrn] at hrv
      rw [← hnn] at hnv
      rw [← g0, ← g1, ← g2, ← g3, ← g4] at HCk
      rw [← g0] at d0
      rw [← g1] at d1
      rw [← g2] at d2
      rw [← g3] at d3
      rw [← g4] at d4
      clear hcl hL hs g0 g1 g2 g3 g4 hrn hnn
      subst hrv hnv
      have HW1 := Lib.hid (HWk.out.below (below_box (Below.refl wr.heap.size wr) (.cells #[.string u0, .int .u8 u1, .int .u8 u2, .int .u32 u3, .string u4, .slice ra rn rc, .slice na nn nc] 47)))
      have HK1 := Lib.hid (HKk.out.trans (Kept.of_below (below_box (Below.refl wr.heap.size wr) (.cells #[.string u0, .int .u8 u1, .int .u8 u2, .int .u32 u3, .string u4, .slice ra rn rc, .slice na nn nc] 47))))
      clear HWk HKk
      go_wp2_with fail
      refine (HCk.out _ HW1.out).mono ?_; rintro e w5 ⟨rfl, q, kq⟩
      have HW2 := Lib.hid q
      rw [HTk.out] at HW2
      have HK2 := Lib.hid (HK1.out.trans kq)
      clear q kq HCk HTk HW1 HK1 d0 d1 d2 d3 d4 d5 d6
      go_wp2_with fail
      go_roundw
      case rel => exact ⟨k + 1, by omega, by go_num, HW2, HK2⟩
      case measure => simp [intOf]; omega
    · have hd : decide (k < n) = false := decide_eq_false hlt
      have HEE := HE.out k (by omega)
      rw [HEE] at HWk
      clear hlt HEE
      go_wp2_with fail
      go_end0
      exact ⟨rfl, HWk.out, HKk.out⟩
end
theorem wt_new (w0 : World) : Wt w0 (w0.alloc (.cells #[.pointer none, .slice none 0 0] 56)) w0.heap.size [] :=
  ⟨.inl ⟨Nat.le_refl _, .slice none 0 0, heap_alloc_new w0 _, World.ownsRow_nil _ _ _ _, by intro h; cases h⟩, below_box (Below.refl w0.heap.size w0) _⟩
/-- What Put answers. -/
def putS' (x : Ob) : ByteArray := if obOk x = true then tx (encO x) else ⟨#[]⟩
set_option maxHeartbeats 4000000 in
set_option maxRecDepth 100000 in
theorem fput_any (v : Value) (x : Ob) (hf : obFits x) (w : World) (hA : ObAt w v x) : Calls Try.prog 9 #[v] w fun e w' => e = .returned (.tuple #[.string (putS' x), .int .i64 (okI (obOk x))]) ∧ Below w.heap.size w w' := by
  have HCk := Lib.hid (fun W (hq : Below w.heap.size w W) => ocheck_any v x hf W (hA.below hq))
  obtain ⟨ok, hok⟩ : ∃ p, p = obOk x := ⟨_, rfl⟩
  have HPS : Hid (putS' x = if ok = true then tx (encO x) else ⟨#[]⟩) := Lib.hid (by unfold putS'; rw [hok])
  have HWr : Hid (ok = true → ∀ wa, Below w.heap.size w wa → ∀ W, Wt wa W wa.heap.size [] → Calls Try.prog 17 #[.pointer (some ⟨wa.heap.size, 0, none⟩), v] W (WPost wa W wa.heap.size [] (encO x))) := Lib.hid (fun h wa hq W q => by
    have h2 : obOk x = true := by rw [← hok]; exact h
    exact wobj_any x (inO_of hf h2) v W (hA.below hq) q (by have := encO_len h2; simpa using this))
  rw [← hok] at HCk ⊢
  obtain ⟨vs, rfl, hS⟩ := hA
  obtain ⟨a, c, rfl, _⟩ := hS.get
  obtain ⟨n, hn⟩ : ∃ n, n = x.syms.length := ⟨_, rfl⟩
  obtain ⟨M, hM⟩ : ∃ M, M = tx x.name := ⟨_, rfl⟩
  rw [← hn, ← hM] at HCk HWr ⊢
  obtain ⟨P, hP⟩ : ∃ P, P = putS' x := ⟨_, rfl⟩
  rw [← hP] at HPS ⊢
  obtain ⟨Z, hZ⟩ : ∃ Z, Z = encO x := ⟨_, rfl⟩
  rw [← hZ] at HPS HWr
  have HB0 := Lib.hid (below_new1 w (.cells #[.string M, .slice a n c] 24))
  have HX0 := Lib.hid (Blk.new w 24 [.string M, .slice a n c])
  clear hok hS hn hM hP hZ hf
  go_enter Try.func9, Try.ntmps9
  go_wp2_with fail
  refine (HCk.out _ HB0.out).mono ?_; rintro e w1 ⟨rfl, q⟩
  have HB1 := Lib.hid (below_call HB0.out q)
  have HX1 := Lib.hid (HX0.out.call q)
  clear q HB0 HX0 HCk
  cases ok
  · have hp : P = ⟨#[]⟩ := by rw [HPS.out]; rfl
    subst hp
    simp only [okI]
    go_wp2_with fail
    go_ret2
    exact ⟨rfl, HB1.out⟩
  · have hp : P = tx Z := by rw [HPS.out]; rfl
    subst hp
    simp only [okI]
    have HW0 := Lib.hid (wt_new w1)
    have HX2 := Lib.hid (HX1.out.alloc (.cells #[.pointer none, .slice none 0 0] 56))
    have HWc := Lib.hid (HWr.out rfl w1 HB1.out)
    have b0 : (w1.alloc (.cells #[.pointer none, .slice none 0 0] 56)).cell? ⟨w.heap.size, 0, none⟩ = some (.string M) := HX2.out.cell 0
    have b1 : (w1.alloc (.cells #[.pointer none, .slice none 0 0] 56)).cell? ⟨w.heap.size, 1, none⟩ = some (.slice a n c) := HX2.out.cell 1
    go_wp2_with fail
    refine (HWc.out _ HW0.out).mono ?_; rintro e w2 ⟨rfl, q, k⟩
    have HW2 := Lib.hid q
    clear q k HWc HW0
    have HStr := Lib.hid (string_any w1.heap.size w1.heap.size Z w2 (by simpa using HW2.out.ib) HW2.out.low.size)
    go_wp2_with fail
    refine HStr.out.mono ?_; rintro e w3 ⟨rfl, q⟩
    have HQ := Lib.hid q
    clear q HStr
    go_wp2_with fail
    go_ret2
    exact ⟨rfl, HB1.out.trans ((HW2.out.low.trans HQ.out).mono HB1.out.size)⟩
end Go.Proofs.Ytbpdoiikleaidaa
