import Derived.Test.YtjnhlkaafnaooaaProgW
namespace Go.Proofs.Ytjnhlkaafnaooaa
open Go.RowKit
theorem ones8_split (v : Nat) : onesL v 8 = onesL (v / 4294967296) 4 ++ onesL v 4 := by
  simp only [onesL, List.nil_append, List.cons_append, Nat.div_div_eq_div_mul]
theorem ones4_mod (v : Nat) : onesL (v % 4294967296) 4 = onesL v 4 := by
  simp only [onesL, List.nil_append, List.cons_append, Nat.div_div_eq_div_mul]
  have h1 : v % 4294967296 % 256 = v % 256 := by omega
  have h2 : v % 4294967296 / 256 % 256 = v / 256 % 256 := by omega
  have h3 : v % 4294967296 / (256 * 256) % 256 = v / (256 * 256) % 256 := by omega
  have h4 : v % 4294967296 / (256 * 256 * 256) % 256 = v / (256 * 256 * 256) % 256 := by omega
  rw [h1, h2, h3, h4]

theorem make_cap32 (w : World) : (Instr.makeSlice 34 (.int .i64 0) (.int .i64 32)).run Try.prog w = .ok (.slice (some ⟨w.heap.size, 0, none⟩) 0 32) (w.alloc (.cells (madeCells #[.int .u8 0] 32) 5)) := by
  obtain ⟨i0, hi, hz0, hz1, hz2⟩ := info_parts info_u8
  have hr := run_make (P := Try.prog) w 34 5 i0 (.int .u8 0) Try.underlying34 hi hz0 .i64 .i64 0 32 (by omega) (by omega) (by rw [hz2]; decide) (by decide)
  rw [hr]
  simp [hz1]
  rfl
def stvT (s : St) : Array Value := #[.int .u32 (s.a : Int), .int .u32 (s.b : Int), .int .u32 (s.c : Int), .int .u32 (s.d : Int), .int .u32 (s.e : Int), .int .u32 (s.f : Int), .int .u32 (s.g : Int), .int .u32 (s.h : Int)]
theorem stvT_eq (s : St) : stvT s = (vals .u32 s.list).toArray := rfl
end Go.Proofs.Ytjnhlkaafnaooaa
