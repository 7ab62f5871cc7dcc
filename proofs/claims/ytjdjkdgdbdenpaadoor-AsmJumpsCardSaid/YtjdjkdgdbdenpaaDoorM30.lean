/- The reference's numbers as text. -/
import Derived.Test.YtjdjkdgdbdenpaaDoorM29
set_option linter.unusedVariables false
set_option linter.unusedSimpArgs false
namespace Go.Proofs.YtjdjkdgdbdenpaaDoor
open Go Go.RowKit

theorem dig_nat (t : Nat) : (UInt8.ofNat (48 + t % 10)).toNat = 48 + t % 10 := by
  have : t % 10 < 10 := Nat.mod_lt _ (by decide)
  simp; omega
theorem conv_dig (t : Nat) (w : World) : (convert 23 9 (.slice (some ⟨w.heap.size, 0, none⟩) 1 1)).run Tryd.prog (w.alloc (.cells #[.int .u8 (48 + (t : Int) % 10)] 5)) = .ok (.string (strOf [UInt8.ofNat (48 + t % 10)])) (w.alloc (.cells #[.int .u8 (48 + (t : Int) % 10)] 5)) := by
  have hd := dig_nat t
  have h := run_convert_bytes_back (P := Tryd.prog) (w.alloc (.cells #[.int .u8 (48 + (t : Int) % 10)] 5)) 23 9 5 ⟨w.heap.size, 0, none⟩ 1 [UInt8.ofNat (48 + t % 10)] Tryd.underlying23 Tryd.underlying5 Tryd.underlying9 (fun j hj => by
    simp only [List.length_cons, List.length_nil] at hj
    obtain rfl : j = 0 := by omega
    have e : (⟨w.heap.size, 0, none⟩ : Addr).add 0 = ⟨w.heap.size, 0, none⟩ := by
      unfold Addr.add
      split <;> simp_all
    rw [e, World.cell?_alloc_new]
    show some (Value.int .u8 (48 + (t : Int) % 10)) = some (Value.int .u8 (((UInt8.ofNat (48 + t % 10)).toNat : Nat) : Int))
    rw [hd]
    congr 2)
  exact h
/-- The digits that have been written are the last ones. -/
def DInv (t n : Nat) (s : Bs) : Prop := (n = 0 ∧ s = Lib.decDigits t) ∨ (0 < n ∧ Lib.decDigits t = Lib.decDigits n ++ s)
theorem dinv_start (t : Nat) : DInv t (t / 10) [UInt8.ofNat (48 + t % 10)] := by
  by_cases h : t < 10
  · left
    rw [Lib.decDigits, dif_pos h, show t / 10 = 0 by omega, show t % 10 = t by omega]
    exact ⟨rfl, rfl⟩
  · right
    refine ⟨by omega, ?_⟩
    conv => lhs; rw [Lib.decDigits, dif_neg h]
theorem dinv_step {t n : Nat} {s : Bs} (h : DInv t n s) (hn : 0 < n) : DInv t (n / 10) ([UInt8.ofNat (48 + n % 10)] ++ s) := by
  rcases h with ⟨h, _⟩ | ⟨_, h⟩
  · omega
  · by_cases h10 : n < 10
    · left
      rw [h, Lib.decDigits, dif_pos h10, show n / 10 = 0 by omega, show n % 10 = n by omega]
      exact ⟨rfl, rfl⟩
    · right
      refine ⟨by omega, ?_⟩
      rw [h]
      conv => lhs; rw [Lib.decDigits, dif_neg h10]
      simp
theorem dinv_len {t n : Nat} {s : Bs} (h : DInv t n s) (ht : t ≤ 4294967296) : s.length ≤ 11 := by
  have := decDigits_le t ht
  rcases h with ⟨_, h⟩ | ⟨_, h⟩
  · rw [h]; exact this
  · rw [h, List.length_append] at this; omega
end Go.Proofs.YtjdjkdgdbdenpaaDoor
