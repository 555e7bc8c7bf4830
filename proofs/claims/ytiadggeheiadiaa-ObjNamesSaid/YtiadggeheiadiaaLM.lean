/- Main, of the statements: the chapter's symbol. -/
import Derived.Test.YtiadggeheiadiaaRG
import Derived.Test.YtiadggeheiadiaaNF
set_option linter.unusedVariables false
set_option linter.unusedSimpArgs false
namespace Go.Proofs.Ytiadggeheiadiaa
open Go Go.RowKit Oj

def mainN : ByteArray := ⟨#[109, 97, 105, 110]⟩
def mainT : ByteArray := ⟨#[40, 0, 0, 0, 0, 0, 0, 0]⟩
def mainR (off : Int) : Rl := ⟨off, 1, [109, 97, 105, 110], 0⟩
def mainS (l : List Rl) : Sy := ⟨[109, 97, 105, 110], 1, 1, 8, [40, 0, 0, 0, 0, 0, 0, 0], l, []⟩
/-- What Main hands back. -/
def MainPost (off : Int) (w : World) (e : Ending) (w' : World) : Prop :=
  ∃ a c, e = .returned (.agg #[.string ⟨#[109, 97, 105, 110]⟩, .int .u8 1, .int .u8 1, .int .u32 8, .string ⟨#[40, 0, 0, 0, 0, 0, 0, 0]⟩, .slice a 1 c, .slice none 0 0]) ∧ OwnR w' w.heap.size (.slice a 1 c) [mainR off] ∧ Below w.heap.size w w'
theorem main_own (w : World) (X : Obj) (off : Int) : OwnR ((w.alloc X).alloc (.cells #[.int .u32 off, .int .u8 1, .string ⟨#[109, 97, 105, 110]⟩, .int .u32 0] 54)) w.heap.size (.slice (some ⟨w.heap.size + 1, 0, none⟩) 1 1) [mainR off] := by
  have h := World.ownsRow_lit (w.alloc X) (e := 54) (base := w.heap.size) (size := 4) #[.int .u32 off, .int .u8 1, .string ⟨#[109, 97, 105, 110]⟩, .int .u32 0] 1 (by simp) (by decide) rfl
  rw [show (w.alloc X).heap.size = w.heap.size + 1 by simp] at h
  exact h
set_option maxHeartbeats 4000000 in
set_option maxRecDepth 100000 in
theorem main_any (off : Int) (w : World) : Calls Try.prog 21 #[.int .u32 off] w (MainPost off w) := by
  go_enter Try.func21, Try.ntmps21
  go_wp2_with fail
  refine bodyPost_ret (v := .agg #[.string ⟨#[109, 97, 105, 110]⟩, .int .u8 1, .int .u8 1, .int .u32 8, .string ⟨#[40, 0, 0, 0, 0, 0, 0, 0]⟩, .slice (some ⟨w.heap.size + 1, 0, none⟩) 1 1, .slice none 0 0]) (results_cell_row Try.results21 _ _ w.heap.size 40 _ (0, 0) _ rfl ((Blk.new w 40 [.string ⟨#[109, 97, 105, 110]⟩, .int .u8 1, .int .u8 1, .int .u32 8, .string ⟨#[40, 0, 0, 0, 0, 0, 0, 0]⟩, .slice (some ⟨w.heap.size + 1, 0, none⟩) 1 1, .slice none 0 0]).alloc _) Try.underlying40 rfl (by kernel_rfl)) rfl ⟨_, _, rfl, main_own w _ off, below_new2 w _ _⟩
/-- It reads as the chapter's symbol. -/
theorem main_sym {w w' : World} {B : Nat} {l : List Rl} {a : Option Addr} {c n : Nat} (hn : n = l.length) (h : OwnR w B (.slice a n c) l) (hb : Below w.heap.size w w') :
    SymAt w' (.agg #[.string ⟨#[109, 97, 105, 110]⟩, .int .u8 1, .int .u8 1, .int .u32 8, .string ⟨#[40, 0, 0, 0, 0, 0, 0, 0]⟩, .slice a n c, .slice none 0 0]) (mainS l) :=
  ⟨_, _, rfl, (show RelsAt w _ l from slC_of_row (fun _ _ => rfl) h).below hb, ⟨none, 0, rfl, fun h => absurd h (Nat.lt_irrefl 0)⟩⟩
theorem main_fits (l : List Rl) (hl : l.length ≤ 2) (h : ∀ j, j < l.length → rlFits (l.getD j Rl.nought)) : syFits (mainS l) := by
  refine ⟨show (4 : Nat) ≤ _ by decide, show (0 : Int) ≤ 1 ∧ (1 : Int) < 256 by decide, show (0 : Int) ≤ 1 ∧ (1 : Int) < 256 by decide, show (0 : Int) ≤ 8 ∧ (8 : Int) < 4294967296 by decide, show (8 : Nat) ≤ _ by decide, ?_, show (0 : Nat) * 12 ≤ _ by decide, h, fun j hj => absurd hj (Nat.not_lt_zero j)⟩
  show l.length * 32 ≤ _
  omega
end Go.Proofs.Ytiadggeheiadiaa
