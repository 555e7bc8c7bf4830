/- The program's Check, Sym, Note, Find. -/
import Derived.Test.YtiadggeheiadiaaNG
set_option linter.unusedVariables false
set_option linter.unusedSimpArgs false
namespace Go.Proofs.Ytiadggeheiadiaa
open Go Go.RowKit Oj

/-! the package's own functions -/
def okI (b : Bool) : Int := if b = true then 0 else 2
set_option maxHeartbeats 1000000 in
theorem unless_any (b : Bool) (w : World) : Calls Try.prog 22 #[.bool b] w fun e w' => e = .returned (.int .i64 (okI b)) ∧ w = w' := by
  cases b
  · go_enter Try.func22, Try.ntmps22
    go_wp2
    go_ret
    exact ⟨rfl, rfl⟩
  · go_enter Try.func22, Try.ntmps22
    go_wp2
    go_ret
    exact ⟨rfl, rfl⟩
set_option maxHeartbeats 2000000 in
set_option maxRecDepth 100000 in
theorem ocheck_any (v : Value) (x : Ob) (hf : obFits x) (w : World) (hA : ObAt w v x) : Calls Try.prog 9 #[v] w fun e w' => e = .returned (.int .i64 (okI (obOk x))) ∧ Below w.heap.size w w' := by
  have HI := Lib.hid (fun W (hq : Below w.heap.size w W) => isobject_any v x hf W (hA.below hq))
  obtain ⟨vs, rfl, a, c, hS⟩ : ∃ vs, v = .agg #[.string (tx x.name), vs] ∧ ∃ a c, vs = .slice a x.syms.length c := by
    obtain ⟨vs, rfl, R, N, ⟨a, c, rfl, _⟩, _⟩ := hA
    exact ⟨_, rfl, a, c, rfl⟩
  subst hS
  obtain ⟨b, hb⟩ : ∃ b, b = obOk x := ⟨_, rfl⟩
  obtain ⟨M, hM⟩ : ∃ M, M = tx x.name := ⟨_, rfl⟩
  obtain ⟨n, hn⟩ : ∃ n, n = x.syms.length := ⟨_, rfl⟩
  rw [← hb, ← hM, ← hn] at HI
  rw [← hb, ← hM, ← hn]
  clear hb hM hn hA hf
  have HB0 := Lib.hid (below_new1 w (.cells #[.string M, .slice a n c] 24))
  go_enter Try.func9, Try.ntmps9
  go_wp2_with fail
  refine (HI.out _ HB0.out).mono ?_; rintro e w1 ⟨rfl, q1⟩
  have HB1 := Lib.hid (below_call HB0.out q1)
  clear q1
  go_wp2_with fail
  refine (unless_any _ _).mono ?_; rintro e w2 ⟨rfl, rfl⟩
  go_wp2_with fail
  go_ret
  exact ⟨rfl, HB1.out⟩
set_option maxHeartbeats 2000000 in
set_option maxRecDepth 100000 in
theorem osym_any (v : Value) (s : Sy) (hf : syFits s) (w : World) (hA : SymAt w v s) : Calls Try.prog 13 #[v] w fun e w' => e = .returned (.int .i64 (okI (symOk s))) ∧ Below w.heap.size w w' := by
  have HI := Lib.hid (fun W (hq : Below w.heap.size w W) => issym_any s hf v W (hA.below hq))
  obtain ⟨vr, vn, rfl, ⟨a, c, rfl, _⟩, ⟨a2, c2, rfl, _⟩⟩ := hA
  obtain ⟨b, hb⟩ : ∃ b, b = symOk s := ⟨_, rfl⟩
  obtain ⟨nm, gnm⟩ : ∃ x, x = tx s.name := ⟨_, rfl⟩
  obtain ⟨bi, gbi⟩ : ∃ x, x = s.bind := ⟨_, rfl⟩
  obtain ⟨ki, gki⟩ : ∃ x, x = s.kind := ⟨_, rfl⟩
  obtain ⟨sz, gsz⟩ : ∃ x, x = s.size := ⟨_, rfl⟩
  obtain ⟨by1, gby⟩ : ∃ x, x = tx s.bytes := ⟨_, rfl⟩
  obtain ⟨n, hn⟩ : ∃ n, n = s.rels.length := ⟨_, rfl⟩
  obtain ⟨n2, hn2⟩ : ∃ n, n = s.notes.length := ⟨_, rfl⟩
  rw [← hb, ← gnm, ← gbi, ← gki, ← gsz, ← gby, ← hn, ← hn2] at HI
  rw [← hb, ← gnm, ← gbi, ← gki, ← gsz, ← gby, ← hn, ← hn2]
  clear hb gnm gbi gki gsz gby hn hn2 hf
  have HB0 := Lib.hid (below_new1 w (.cells #[.string nm, .int .u8 bi, .int .u8 ki, .int .u32 sz, .string by1, .slice a n c, .slice a2 n2 c2] 40))
  go_enter Try.func13, Try.ntmps13
  go_wp2_with fail
  refine (HI.out _ HB0.out).mono ?_; rintro e w1 ⟨rfl, q1⟩
  have HB1 := Lib.hid (below_call HB0.out q1)
  clear q1
  go_wp2_with fail
  refine (unless_any _ _).mono ?_; rintro e w2 ⟨rfl, rfl⟩
  go_wp2_with fail
  go_ret
  exact ⟨rfl, HB1.out⟩
set_option maxHeartbeats 2000000 in
set_option maxRecDepth 100000 in
theorem onote_any (x : Nt) (hf : ntFits x) (w : World) : Calls Try.prog 10 #[ntV x] w fun e w' => e = .returned (.int .i64 (okI (noteOk x))) ∧ Below w.heap.size w w' := by
  have HI := Lib.hid (fun W => isnote_any x hf W)
  rw [ntV_eq] at HI ⊢
  obtain ⟨b, hb⟩ : ∃ b, b = noteOk x := ⟨_, rfl⟩
  obtain ⟨k, hk⟩ : ∃ k, k = x.kind := ⟨_, rfl⟩
  obtain ⟨n, hn⟩ : ∃ n, n = x.n := ⟨_, rfl⟩
  obtain ⟨m, hm⟩ : ∃ m, m = x.m := ⟨_, rfl⟩
  rw [← hb, ← hk, ← hn, ← hm] at HI
  rw [← hb, ← hk, ← hn, ← hm]
  clear hb hk hn hm hf
  have HB0 := Lib.hid (below_new1 w (.cells #[.int .u8 k, .int .u32 n, .int .u32 m] 27))
  go_enter Try.func10, Try.ntmps10
  go_wp2_with fail
  refine (HI.out _).mono ?_; rintro e w1 ⟨rfl, q1⟩
  have HB1 := Lib.hid (below_call HB0.out q1)
  clear q1
  go_wp2_with fail
  refine (unless_any _ _).mono ?_; rintro e w2 ⟨rfl, rfl⟩
  go_wp2_with fail
  go_ret
  exact ⟨rfl, HB1.out⟩
set_option maxHeartbeats 4000000 in
set_option maxRecDepth 100000 in
theorem oFind_any (v : Value) (x : Ob) (hf : obFits x) (nm : ByteArray) (w : World) (hA : ObAt w v x) : Calls Try.prog 15 #[v, .string nm] w fun e w' => e = .returned (findV (findO x (by' nm))) ∧ Below w.heap.size w w' := by
  have HI := Lib.hid (fun W (hq : Below w.heap.size w W) => isobject_any v x hf W (hA.below hq))
  obtain ⟨vs, rfl, hS⟩ := hA
  have HO := Lib.hid (fun W (hq : Below w.heap.size w W) => ofind_any vs x.syms nm W (hS.below hq) hf.2.1)
  obtain ⟨a, c, rfl⟩ : ∃ a c, vs = .slice a x.syms.length c := by
    obtain ⟨R, N, ⟨a, c, rfl, _⟩, _⟩ := hS
    exact ⟨a, c, rfl⟩
  obtain ⟨b, hb⟩ : ∃ b, b = obOk x := ⟨_, rfl⟩
  obtain ⟨M, hM⟩ : ∃ M, M = tx x.name := ⟨_, rfl⟩
  obtain ⟨n, hn⟩ : ∃ n, n = x.syms.length := ⟨_, rfl⟩
  obtain ⟨r, hr⟩ : ∃ r, r = findS x.syms (by' nm) := ⟨_, rfl⟩
  obtain ⟨E, hE⟩ : ∃ E, E = findO x (by' nm) := ⟨_, rfl⟩
  have HE : Hid (E = if b = true then r else none) := Lib.hid (by rw [hE, hr, hb]; rfl)
  rw [← hb, ← hM, ← hn] at HI
  rw [← hr, ← hn] at HO
  rw [← hE, ← hM, ← hn]
  have HB0 := Lib.hid (below_new1 w (.cells #[.string M, .slice a n c] 24))
  have HX0 := Lib.hid (Blk.new w 24 [.string M, .slice a n c])
  clear hb hM hn hr hE hS hf
  go_enter Try.func15, Try.ntmps15
  go_wp2_with fail
  refine (HI.out _ HB0.out).mono ?_; rintro e w1 ⟨rfl, q1⟩
  have HB1 := Lib.hid (below_call HB0.out q1)
  have HX1 := Lib.hid (HX0.out.call q1)
  clear q1
  cases b
  · have hr : E = none := by rw [HE.out]; rfl
    subst hr
    go_wp2_with fail
    go_ret2
    exact ⟨rfl, HB1.out⟩
  · have b1 : w1.cell? ⟨w.heap.size, 1, none⟩ = some (.slice a n c) := HX1.out.cell 1
    have hr : E = r := by rw [HE.out]; rfl
    subst hr
    cases E with
    | none =>
      go_wp2_with fail
      refine (HO.out _ HB1.out).mono ?_; rintro e w2 ⟨he, rfl⟩
      have he2 : e = .returned (.tuple #[.int .i64 0, .bool false]) := he
      clear he
      subst he2
      go_wp2_with fail
      go_ret2
      exact ⟨rfl, HB1.out⟩
    | some i =>
      go_wp2_with fail
      refine (HO.out _ HB1.out).mono ?_; rintro e w2 ⟨he, rfl⟩
      have he2 : e = .returned (.tuple #[.int .i64 (i : Int), .bool true]) := he
      clear he
      subst he2
      go_wp2_with fail
      go_ret2
      exact ⟨rfl, HB1.out⟩
end Go.Proofs.Ytiadggeheiadiaa
