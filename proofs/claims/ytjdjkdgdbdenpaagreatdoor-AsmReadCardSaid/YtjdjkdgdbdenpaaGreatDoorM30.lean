/- The reference's numbers as text. -/
import Derived.Test.YtjdjkdgdbdenpaaGreatDoorM29
set_option linter.unusedVariables false
set_option linter.unusedSimpArgs false
namespace Go.Proofs.YtjdjkdgdbdenpaaGreatDoor
open Go Go.RowKit

theorem dig_nat (t : Nat) : (UInt8.ofNat (48 + t % 10)).toNat = 48 + t % 10 := by
  have : t % 10 < 10 := Nat.mod_lt _ (by decide)
  simp; omega
theorem conv_dig (t : Nat) (w : World) : (convert 35 9 (.slice (some ⟨w.heap.size, 0, none⟩) 1 1)).run Tryz.prog (w.alloc (.cells #[.int .u8 (48 + (t : Int) % 10)] 5)) = .ok (.string (strOf [UInt8.ofNat (48 + t % 10)])) (w.alloc (.cells #[.int .u8 (48 + (t : Int) % 10)] 5)) := by
  have hd := dig_nat t
  have h := run_convert_bytes_back (P := Tryz.prog) (w.alloc (.cells #[.int .u8 (48 + (t : Int) % 10)] 5)) 35 9 5 ⟨w.heap.size, 0, none⟩ 1 [UInt8.ofNat (48 + t % 10)] Tryz.underlying35 Tryz.underlying5 Tryz.underlying9 (fun j hj => by
    simp only [List.length_cons, List.length_nil] at hj
    obtain rfl : j = 0 := by omega
    have e : (⟨w.heap.size, 0, none⟩ : Addr).add 0 = ⟨w.heap.size, 0, none⟩ := by
      unfold Addr.add
      split <;> simp_all
    rw [e, World.cell?_alloc_new]
    show some (Value.int .u8 (48 + (t : Int) % 10)) = some (Value.int .u8 (((UInt8.ofNat (48 + t % 10)).toNat : Nat) : Int))
    rw [hd]
    congr 2)
  exact h
/-- The digits that have been written are the last ones. -/
def DInv (t n : Nat) (s : Bs) : Prop := (n = 0 ∧ s = Lib.decDigits t) ∨ (0 < n ∧ Lib.decDigits t = Lib.decDigits n ++ s)
theorem dinv_start (t : Nat) : DInv t (t / 10) [UInt8.ofNat (48 + t % 10)] := by
  by_cases h : t < 10
  · left
    rw [Lib.decDigits, dif_pos h, show t / 10 = 0 by omega, show t % 10 = t by omega]
    exact ⟨rfl, rfl⟩
  · right
    refine ⟨by omega, ?_⟩
    conv => lhs; rw [Lib.decDigits, dif_neg h]
theorem dinv_step {t n : Nat} {s : Bs} (h : DInv t n s) (hn : 0 < n) : DInv t (n / 10) ([UInt8.ofNat (48 + n % 10)] ++ s) := by
  rcases h with ⟨h, _⟩ | ⟨_, h⟩
  · omega
  · by_cases h10 : n < 10
    · left
      rw [h, Lib.decDigits, dif_pos h10, show n / 10 = 0 by omega, show n % 10 = n by omega]
      exact ⟨rfl, rfl⟩
    · right
      refine ⟨by omega, ?_⟩
      rw [h]
      conv => lhs; rw [Lib.decDigits, dif_neg h10]
      simp
theorem dinv_len {t n : Nat} {s : Bs} (h : DInv t n s) (ht : t ≤ 4294967296) : s.length ≤ 11 := by
  have := decDigits_le t ht
  rcases h with ⟨_, h⟩ | ⟨_, h⟩
  · rw [h]; exact this
  · rw [h, List.length_append] at this; omega
set_option maxRecDepth 100000 in
set_option maxHeartbeats 2000000 in
/-- From the sign on. -/
theorem Number_any (v : Int) (hv : isW v) (w : World) : Calls Tryz.prog 57 #[.int .i32 v] w fun e w' => e = .returned (.string (strOf (Lib.itoa v))) ∧ Below w.heap.size w w' := by
  obtain ⟨h0, h1⟩ := id hv
  obtain ⟨t, ht⟩ : ∃ t, v.natAbs = t := ⟨_, rfl⟩
  have htb : t ≤ 2147483648 := by omega
  have hd : t % 10 < 10 := Nat.mod_lt _ (by decide)
  have e1 : (t : Int).tmod 10 = ((t % 10 : Nat) : Int) := by rw [Int.tmod_eq_emod_of_nonneg (by omega)]; simp
  have hdv : ((t / 10 : Nat) : Int) = (t : Int) / 10 := by simp
  have HS := Lib.hid (dinv_start t)
  have HE := Lib.hid (fun (s : Bs) (h : DInv t 0 s) => show s = Lib.decDigits t from by
    rcases h with ⟨_, h⟩ | ⟨h, _⟩
    · exact h
    · omega)
  have HL := Lib.hid (fun (n : Nat) (s : Bs) (h : DInv t n s) => dinv_len h (by omega))
  have hcv := conv_dig t
  generalize hS0 : [UInt8.ofNat (48 + t % 10)] = S0 at *
  clear hS0
  by_cases hn : v < 0
  · have HF := Lib.hid (show Lib.itoa v = [45] ++ Lib.decDigits t by unfold Lib.itoa; rw [if_pos hn, ht]; rfl)
    have hneg : IntKind.i64.wrap (-v) = (t : Int) := by rw [IntWalk.i64_in _ (by omega)]; omega
    have hneg2 : -v = (t : Int) := by omega
    go_enter Tryz.func57, Tryz.ntmps57
    go_wp2
    clear hcv hneg hneg2
    go_loopw [3, 5] (fun x s wr => ∃ (n : Nat) (S : Bs), n ≤ t ∧ x = .int .i64 n ∧ s = .string (strOf S) ∧ Hid (DInv t n S ∧ Below w.heap.size w wr)) (fun x _ _ => (intOf x).toNat)
    case atStart => exact ⟨t / 10, S0, Nat.div_le_self _ _, by rw [hdv], rfl, Lib.hid ⟨HS.out, bal (b0 w) _⟩⟩
    case round =>
      obtain ⟨n, S, hnt, rfl, rfl, H⟩ := hrel
      by_cases hpos : (0 : Int) < (n : Int)
      · have hcv := conv_dig n
        have HSn := Lib.hid (dinv_step H.out.1 (by omega))
        have hl := HL.out n S H.out.1
        have hcat := cat_str [UInt8.ofNat (48 + n % 10)] S (by simp; omega)
        have hdn : ((n / 10 : Nat) : Int) = (n : Int) / 10 := by simp
        have hlt := Nat.div_lt_self (n := n) (k := 10) (by omega) (by decide)
        have Hdn := Lib.hid (And.intro hdn (And.intro hlt (Nat.div_le_self n 10)))
        clear hl hdn hlt
        generalize [UInt8.ofNat (48 + n % 10)] ++ S = S2 at *
        generalize [UInt8.ofNat (48 + n % 10)] = S1 at *
        go_wp2
        clear hcv hcat
        go_roundw
        case rel => exact ⟨n / 10, S2, by have := Hdn.out.2.2; omega, by rw [Hdn.out.1], rfl, Lib.hid ⟨HSn.out, bal H.out.2 _⟩⟩
        case measure => simp [intOf]; omega
      · obtain rfl : n = 0 := by omega
        have hl := HL.out 0 S H.out.1
        have hS := HE.out S H.out.1
        have hcat := cat_str [45] S (by simp; omega)
        have hcat2 : Op.stringOp .add ⟨#[45]⟩ (strOf S) = pure (.string (strOf ([45] ++ S))) := hcat
        have HR := Lib.hid (show Lib.itoa v = [45] ++ S by rw [HF.out, hS])
        have HB := Lib.hid H.out.2
        clear hl hS hcat H
        generalize [45] ++ S = S2 at *
        go_wp2
        go_ret
        rw [HR.out]
        exact ⟨rfl, HB.out⟩
  · have HF := Lib.hid (show Lib.itoa v = Lib.decDigits t by unfold Lib.itoa; rw [if_neg hn]; congr 1; omega)
    obtain rfl : v = (t : Int) := by omega
    go_enter Tryz.func57, Tryz.ntmps57
    go_wp2
    clear hcv
    go_loopw [3, 5] (fun x s wr => ∃ (n : Nat) (S : Bs), n ≤ t ∧ x = .int .i64 n ∧ s = .string (strOf S) ∧ Hid (DInv t n S ∧ Below w.heap.size w wr)) (fun x _ _ => (intOf x).toNat)
    case atStart => exact ⟨t / 10, S0, Nat.div_le_self _ _, by rw [hdv], rfl, Lib.hid ⟨HS.out, bal (b0 w) _⟩⟩
    case round =>
      obtain ⟨n, S, hnt, rfl, rfl, H⟩ := hrel
      by_cases hpos : (0 : Int) < (n : Int)
      · have hcv := conv_dig n
        have HSn := Lib.hid (dinv_step H.out.1 (by omega))
        have hl := HL.out n S H.out.1
        have hcat := cat_str [UInt8.ofNat (48 + n % 10)] S (by simp; omega)
        have hdn : ((n / 10 : Nat) : Int) = (n : Int) / 10 := by simp
        have hlt := Nat.div_lt_self (n := n) (k := 10) (by omega) (by decide)
        have Hdn := Lib.hid (And.intro hdn (And.intro hlt (Nat.div_le_self n 10)))
        clear hl hdn hlt
        generalize [UInt8.ofNat (48 + n % 10)] ++ S = S2 at *
        generalize [UInt8.ofNat (48 + n % 10)] = S1 at *
        go_wp2
        clear hcv hcat
        go_roundw
        case rel => exact ⟨n / 10, S2, by have := Hdn.out.2.2; omega, by rw [Hdn.out.1], rfl, Lib.hid ⟨HSn.out, bal H.out.2 _⟩⟩
        case measure => simp [intOf]; omega
      · obtain rfl : n = 0 := by omega
        have hl := HL.out 0 S H.out.1
        have hS := HE.out S H.out.1
        have hcat := cat_str [] S (by simp; omega)
        have hcat2 : Op.stringOp .add ⟨#[]⟩ (strOf S) = pure (.string (strOf S)) := hcat
        have HR := Lib.hid (show Lib.itoa (t : Int) = S by rw [HF.out, hS])
        have HB := Lib.hid H.out.2
        clear hl hS hcat H
        go_wp2
        go_ret
        rw [HR.out]
        exact ⟨rfl, HB.out⟩
end Go.Proofs.YtjdjkdgdbdenpaaGreatDoor
