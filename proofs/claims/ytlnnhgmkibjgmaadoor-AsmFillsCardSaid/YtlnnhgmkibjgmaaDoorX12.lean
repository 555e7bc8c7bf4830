/- The document's SameSym: of what is the same (out of obj/RC RE). -/
import Derived.Test.YtlnnhgmkibjgmaaDoorX10
import Derived.Test.YtlnnhgmkibjgmaaDoorQT
import Derived.Laws.StructEq
import Derived.Deep.DeepCutAuto
set_option linter.unusedVariables false
set_option linter.unusedSimpArgs false
namespace Go.Proofs.YtlnnhgmkibjgmaaDoor
open Go Go.RowKit Oj

theorem below_drew {w wr : World} (hb : Below w.heap.size w wr) (n : Nat) : Below w.heap.size w (wr.drewN n) := below_call hb (below_drewN _ n)
theorem Blk.drewN {w : World} {g : Nat} {t : TypeId} {cs : List Value} (h : Blk w g t cs) (n : Nat) : Blk (w.drewN n) g t cs := h
set_option maxHeartbeats 8000000 in
set_option maxRecDepth 100000 in
theorem rsamesym_any (s : Sy) (h : syFits s) (v v2 : Value) (w : World) (hA : SymAt w v s) (hA2 : SymAt w v2 s) : Calls Tryd.prog 11 #[v, v2] w fun e w' => e = .returned (.bool true) ∧ Below w.heap.size w w' := by
  obtain ⟨vr, vn, rfl, ⟨ar, cr, rfl, hR⟩, ⟨an, cn, rfl, hN⟩⟩ := hA
  obtain ⟨vr2, vn2, rfl, ⟨ar2, cr2, rfl, hR2⟩, ⟨an2, cn2, rfl, hN2⟩⟩ := hA2
  obtain ⟨f1, ⟨f2, f3⟩, ⟨f4, f5⟩, ⟨f6, f7⟩, f8, f9, f10, f11, f12⟩ := h
  obtain ⟨lr, hlr⟩ : ∃ l, l = s.rels := ⟨_, rfl⟩
  obtain ⟨ln, hln⟩ : ∃ l, l = s.notes := ⟨_, rfl⟩
  rw [← hlr] at hR hR2 f9 ⊢
  rw [← hln] at hN hN2 f10 ⊢
  obtain ⟨nr, hnr⟩ : ∃ nr, nr = lr.length := ⟨_, rfl⟩
  obtain ⟨nn, hnn⟩ : ∃ nr, nr = ln.length := ⟨_, rfl⟩
  rw [← hnr] at hR hR2 f9 ⊢
  rw [← hnn] at hN hN2 f10 ⊢
  obtain ⟨nm, gnm⟩ : ∃ x, x = tx s.name := ⟨_, rfl⟩
  obtain ⟨bi, gbi⟩ : ∃ x, x = s.bind := ⟨_, rfl⟩
  obtain ⟨ki, gki⟩ : ∃ x, x = s.kind := ⟨_, rfl⟩
  obtain ⟨sz, gsz⟩ : ∃ x, x = s.size := ⟨_, rfl⟩
  obtain ⟨by1, gby⟩ : ∃ x, x = tx s.bytes := ⟨_, rfl⟩
  rw [← gnm, ← gbi, ← gki, ← gsz, ← gby]
  have hri : (nr : Int) ≤ 4398046511104 := by omega
  have hnni : (nn : Int) ≤ 11728124029610 := by omega
  have HR := Lib.hid hR
  have HR2 := Lib.hid hR2
  have HN := Lib.hid hN
  have HN2 := Lib.hid hN2
  have HB0 := Lib.hid (below_new2 w (.cells #[.string nm, .int .u8 bi, .int .u8 ki, .int .u32 sz, .string by1, .slice ar nr cr, .slice an nn cn] 29) (.cells #[.string nm, .int .u8 bi, .int .u8 ki, .int .u32 sz, .string by1, .slice ar2 nr cr2, .slice an2 nn cn2] 29))
  have HX0 := Lib.hid ((Blk.new w 29 [.string nm, .int .u8 bi, .int .u8 ki, .int .u32 sz, .string by1, .slice ar nr cr, .slice an nn cn]).alloc (.cells #[.string nm, .int .u8 bi, .int .u8 ki, .int .u32 sz, .string by1, .slice ar2 nr cr2, .slice an2 nn cn2] 29))
  have HY0 := Lib.hid (Blk.new2 w (.cells #[.string nm, .int .u8 bi, .int .u8 ki, .int .u32 sz, .string by1, .slice ar nr cr, .slice an nn cn] 29) 29 [.string nm, .int .u8 bi, .int .u8 ki, .int .u32 sz, .string by1, .slice ar2 nr cr2, .slice an2 nn cn2])
  clear hlr hln hnr hnn gnm gbi gki gsz gby hR hR2 hN hN2 f1 f2 f3 f4 f5 f6 f7 f8 f9 f10 f11 f12
  go_enter Tryd.func11, Tryd.ntmps11
  go_wp2_with fail
  go_loopw [5] (fun i wr => ∃ k : Nat, (k : Int) ≤ nr ∧ i = .int .i64 k ∧ Hid (Below w.heap.size w wr) ∧ Hid (Blk wr w.heap.size 29 [.string nm, .int .u8 bi, .int .u8 ki, .int .u32 sz, .string by1, .slice ar nr cr, .slice an nn cn]) ∧ Hid (Blk wr (w.heap.size + 1) 29 [.string nm, .int .u8 bi, .int .u8 ki, .int .u32 sz, .string by1, .slice ar2 nr cr2, .slice an2 nn cn2])) (fun i _ => nr - (intOf i).toNat)
  case atStart => exact ⟨0, by omega, rfl, HB0, HX0, HY0⟩
  case round =>
    clear HB0 HX0 HY0
    obtain ⟨k, hk, rfl, HB, HX, HY⟩ := hrel
    have b5 : wr.cell? ⟨w.heap.size, 5, none⟩ = some (.slice ar nr cr) := HX.out.cell 5
    have d5 : wr.cell? ⟨w.heap.size + 1, 5, none⟩ = some (.slice ar2 nr cr2) := HY.out.cell 5
    by_cases hlt : k < nr
    · have hd : decide (k < nr) = true := decide_eq_true hlt
      obtain ⟨b, o, rfl, hbl, hcl⟩ := HR.out (by omega)
      obtain ⟨b2, o2, rfl, hbl2, hcl2⟩ := HR2.out (by omega)
      obtain ⟨x, hx⟩ : ∃ x, x = lr.getD k Rl.nought := ⟨_, rfl⟩
      have hL := ((hcl k hlt).below HB.out hbl)
      have hL2 := ((hcl2 k hlt).below HB.out hbl2)
      rw [← hx] at hL hL2
      obtain ⟨c0, c1, c2, c3⟩ := hL.rl
      obtain ⟨e0, e1, e2, e3⟩ := hL2.rl
      obtain ⟨x0, h0⟩ : ∃ y, y = x.off := ⟨_, rfl⟩
      obtain ⟨x1, h1⟩ : ∃ y, y = x.kind := ⟨_, rfl⟩
      obtain ⟨x2, h2⟩ : ∃ y, y = tx x.name := ⟨_, rfl⟩
      obtain ⟨x3, h3⟩ : ∃ y, y = x.add := ⟨_, rfl⟩
      rw [← h0] at c0 e0
      rw [← h1] at c1 e1
      rw [← h2] at c2 e2
      rw [← h3] at c3 e3
      clear hL hL2 hcl hcl2 hx h0 h1 h2 h3
      go_upto_region 6 with (fail)
      go_quiet (fail)
      go_wp2_with fail
      clear c0 c1 c2 c3 e0 e1 e2 e3 b5 d5
      go_roundw
      case rel => exact ⟨k + 1, by omega, by go_num, Lib.hid (below_drew HB.out _), Lib.hid (HX.out.drewN _), Lib.hid (HY.out.drewN _)⟩
      case measure => simp [intOf]; omega
    · have hd : decide (k < nr) = false := decide_eq_false hlt
      clear hlt
      go_wp2_with fail
      clear b5 d5
      go_loopw [6] (fun i wr => ∃ k : Nat, (k : Int) ≤ nn ∧ i = .int .i64 k ∧ Hid (Below w.heap.size w wr) ∧ Hid (Blk wr w.heap.size 29 [.string nm, .int .u8 bi, .int .u8 ki, .int .u32 sz, .string by1, .slice ar nr cr, .slice an nn cn]) ∧ Hid (Blk wr (w.heap.size + 1) 29 [.string nm, .int .u8 bi, .int .u8 ki, .int .u32 sz, .string by1, .slice ar2 nr cr2, .slice an2 nn cn2])) (fun i _ => nn - (intOf i).toNat)
      case atStart => exact ⟨0, by omega, rfl, HB, HX, HY⟩
      case round =>
        clear HB HX HY
        obtain ⟨m, hm, rfl, HB, HX, HY⟩ := hrel
        have b6 : wr.cell? ⟨w.heap.size, 6, none⟩ = some (.slice an nn cn) := HX.out.cell 6
        have d6 : wr.cell? ⟨w.heap.size + 1, 6, none⟩ = some (.slice an2 nn cn2) := HY.out.cell 6
        by_cases hlt : m < nn
        · have hd : decide (m < nn) = true := decide_eq_true hlt
          obtain ⟨b, o, rfl, hbl, hcl⟩ := HN.out (by omega)
          obtain ⟨b2, o2, rfl, hbl2, hcl2⟩ := HN2.out (by omega)
          obtain ⟨x, hx⟩ : ∃ x, x = ln.getD m Nt.nought := ⟨_, rfl⟩
          have hL := ((hcl m hlt).below HB.out hbl)
          have hL2 := ((hcl2 m hlt).below HB.out hbl2)
          rw [← hx] at hL hL2
          obtain ⟨c0, c1, c2⟩ := hL.nt
          obtain ⟨e0, e1, e2⟩ := hL2.nt
          obtain ⟨x0, h0⟩ : ∃ y, y = x.kind := ⟨_, rfl⟩
          obtain ⟨x1, h1⟩ : ∃ y, y = x.n := ⟨_, rfl⟩
          obtain ⟨x2, h2⟩ : ∃ y, y = x.m := ⟨_, rfl⟩
          rw [← h0] at c0 e0
          rw [← h1] at c1 e1
          rw [← h2] at c2 e2
          clear hL hL2 hcl hcl2 hx h0 h1 h2
          go_upto_region 11 with (fail)
          go_quiet (fail)
          go_wp2_with fail
          clear c0 c1 c2 e0 e1 e2 b6 d6
          go_roundw
          case rel => exact ⟨m + 1, by omega, by go_num, Lib.hid (below_drew HB.out _), Lib.hid (HX.out.drewN _), Lib.hid (HY.out.drewN _)⟩
          case measure => simp [intOf]; omega
        · have hd : decide (m < nn) = false := decide_eq_false hlt
          clear hlt
          go_wp2_with fail
          go_ret
          exact ⟨rfl, HB.out⟩
end Go.Proofs.YtlnnhgmkibjgmaaDoor
