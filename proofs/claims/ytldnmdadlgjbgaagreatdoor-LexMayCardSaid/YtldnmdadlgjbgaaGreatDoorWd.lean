/- Contracts of the texts of the reference of layer 1: its digits are those of the number. -/
import Derived.Test.YtldnmdadlgjbgaaGreatDoorWl
import Derived.Deep.QuietTactic
import Derived.BigQuiet
import Derived.Deep.RegionWith
import Derived.IntWalk
set_option linter.unusedVariables false
set_option linter.unusedSimpArgs false
namespace Go.Proofs.YtldnmdadlgjbgaaGreatDoor.W1
open Go Go.RowKit

/-- A string of bytes. -/
def strOf (l : List UInt8) : ByteArray := ⟨l.toArray⟩
theorem strOf_append (a b : List UInt8) : strOf (a ++ b) = strOf a ++ strOf b := by
  apply ByteArray.ext
  simp [strOf]
theorem strOf_cons (a : UInt8) (b : List UInt8) : strOf (a :: b) = strOf [a] ++ strOf b := strOf_append [a] b
theorem strOf_size (l : List UInt8) : (strOf l).size = l.length := by simp [strOf, ByteArray.size]
theorem cat_str (a b : List UInt8) (h : a.length + b.length ≤ 1000000) : Op.stringOp .add (strOf a) (strOf b) = pure (.string (strOf (a ++ b))) := by
  unfold Op.stringOp
  simp only [strOf_size]
  rw [if_neg (by simp [IntKind.max, IntKind.signed, IntKind.bits]; omega), strOf_append]
theorem lowDigs_length : ∀ base n t, (lowDigs base n t).length = n
  | _, 0, _ => rfl
  | base, n + 1, t => by unfold lowDigs; rw [List.length_append, lowDigs_length base n]; rfl
theorem slice_dig (d : Nat) (h : d < 16) : ∀ W : World, (Instr.slice 9 (.string ⟨#[48, 49, 50, 51, 52, 53, 54, 55, 56, 57, 65, 66, 67, 68, 69, 70]⟩) (some (.int .i64 (d : Int))) (some (.int .i64 ((d : Int) + 1))) none).run Tryz.prog W = .ok (.string (strOf [hexDg d])) W := by
  intro W
  have hs : (⟨#[48, 49, 50, 51, 52, 53, 54, 55, 56, 57, 65, 66, 67, 68, 69, 70]⟩ : ByteArray).size = 16 := rfl
  rw [run_slice_string W 9 _ .i64 .i64 (d : Int) ((d : Int) + 1) Tryz.underlying9 (by omega) (by omega) (by rw [hs]; omega)]
  have ht : ∀ d : Fin 16, ((⟨#[48, 49, 50, 51, 52, 53, 54, 55, 56, 57, 65, 66, 67, 68, 69, 70]⟩ : ByteArray).extract d.val (d.val + 1)).data.toList = [hexDg d.val] := by decide
  have h1 := ht ⟨d, h⟩
  have e : ((d : Int) + 1).toNat = d + 1 := by omega
  rw [Int.toNat_natCast, e]
  congr 2
  apply ByteArray.ext
  rw [← Array.toList_inj, h1]
  rfl

set_option maxHeartbeats 400000 in
theorem digits16_any (least t N : Nat) (hl : least ≤ 8) (ht : t ≤ 4294967296) (hN : N ≤ 11) (hg : goesOn 16 least t N) (w : World) :
    Calls Tryz.prog 78 #[.int .i64 t, .int .i64 16, .int .i64 least] w fun e w' => e = .returned (.string (strOf (lowDigs 16 N t))) ∧ ∃ n, w' = w.drewN n := by
  have Hg := Lib.hid hg
  clear hg
  go_enter Tryz.func78, Tryz.ntmps78
  go_wp2
  go_loopw [0, 7, 8] (fun x s i wr => ∃ k : Nat, k ≤ N ∧ i = .int .i64 k ∧ x = .int .i64 (t / 16 ^ k : Nat) ∧ s = .string (strOf (lowDigs 16 k t)) ∧ ∃ n, wr = w.drewN n) (fun _ _ i _ => N - (intOf i).toNat)
  case atStart => exact ⟨0, Nat.zero_le _, rfl, by simp, rfl, 0, rfl⟩
  case round =>
    obtain ⟨k, hk, rfl, rfl, rfl, n, rfl⟩ := hrel
    have hx : t / 16 ^ k ≤ t := Nat.div_le_self _ _
    have hnx : t / 16 ^ (k + 1) = t / 16 ^ k / 16 := by rw [Nat.pow_succ, Nat.div_div_eq_div_mul]
    have hcons := lowDigs_cons 16 k t
    generalize hX : t / 16 ^ k = x at *
    have HX := Lib.hid hX
    have Hn := Lib.hid hnx
    have Hc := Lib.hid hcons
    clear hX hnx hcons
    by_cases hlt : k < N
    · have hor : k < least ∨ 0 < x := by have := (Hg.out k hk).2 hlt; rw [HX.out] at this; exact this
      have hd : x % 16 < 16 := Nat.mod_lt _ (by decide)
      have hcat := cat_str [hexDg (x % 16)] (lowDigs 16 k t) (by rw [lowDigs_length]; simp; omega)
      have e1 : (x : Int).tmod 16 = ((x % 16 : Nat) : Int) := by rw [Int.tmod_eq_emod_of_nonneg (by omega)]; simp
      have hsl := slice_dig (x % 16) (by omega)
      have e2 : IntKind.i64.wrap (((x % 16 : Nat) : Int) + 1) = ((x % 16 : Nat) : Int) + 1 := IntWalk.i64_in _ (by omega)
      have hdv : ((x / 16 : Nat) : Int) = (x : Int) / 16 := by simp
      have Hdv := Lib.hid hdv
      clear hdv
      generalize hD : x % 16 = d at *
      have HD := Lib.hid hD
      clear hD
      by_cases h1 : k < least
      · clear hor
        go_wp2
        go_quiet (fail)
        clear hsl e1 e2 hcat
        go_wp2
        go_roundw
        case rel => exact ⟨k + 1, by omega, by go_num, by rw [Hn.out, Hdv.out], by rw [Hc.out], _, rfl⟩
        case measure => simp [intOf]; omega
      · have h2 : (0 : Int) < x := by omega
        clear hor
        go_wp2
        go_quiet (fail)
        clear hsl e1 e2 hcat
        go_wp2
        go_roundw
        case rel => exact ⟨k + 1, by omega, by go_num, by rw [Hn.out, Hdv.out], by rw [Hc.out], _, rfl⟩
        case measure => simp [intOf]; omega
    · have hkN : k = N := by omega
      have hno : ¬ (k < least ∨ 0 < x) := fun h => by rw [← HX.out] at h; exact hlt ((Hg.out k hk).1 h)
      have h1 : ¬ k < least := fun h => hno (.inl h)
      have h2 : decide (0 < x) = false := decide_eq_false fun h => hno (.inr h)
      clear hno
      have HK := Lib.hid hkN
      clear hkN
      go_wp2
      go_ret
      exact ⟨by rw [HK.out]; rfl, n, rfl⟩

set_option maxHeartbeats 400000 in
theorem digits10_any (least t N : Nat) (hl : least ≤ 8) (ht : t ≤ 4294967296) (hN : N ≤ 11) (hg : goesOn 10 least t N) (w : World) :
    Calls Tryz.prog 78 #[.int .i64 t, .int .i64 10, .int .i64 least] w fun e w' => e = .returned (.string (strOf (lowDigs 10 N t))) ∧ ∃ n, w' = w.drewN n := by
  have Hg := Lib.hid hg
  clear hg
  go_enter Tryz.func78, Tryz.ntmps78
  go_wp2
  go_loopw [0, 7, 8] (fun x s i wr => ∃ k : Nat, k ≤ N ∧ i = .int .i64 k ∧ x = .int .i64 (t / 10 ^ k : Nat) ∧ s = .string (strOf (lowDigs 10 k t)) ∧ ∃ n, wr = w.drewN n) (fun _ _ i _ => N - (intOf i).toNat)
  case atStart => exact ⟨0, Nat.zero_le _, rfl, by simp, rfl, 0, rfl⟩
  case round =>
    obtain ⟨k, hk, rfl, rfl, rfl, n, rfl⟩ := hrel
    have hx : t / 10 ^ k ≤ t := Nat.div_le_self _ _
    have hnx : t / 10 ^ (k + 1) = t / 10 ^ k / 10 := by rw [Nat.pow_succ, Nat.div_div_eq_div_mul]
    have hcons := lowDigs_cons 10 k t
    generalize hX : t / 10 ^ k = x at *
    have HX := Lib.hid hX
    have Hn := Lib.hid hnx
    have Hc := Lib.hid hcons
    clear hX hnx hcons
    by_cases hlt : k < N
    · have hor : k < least ∨ 0 < x := by have := (Hg.out k hk).2 hlt; rw [HX.out] at this; exact this
      have hd : x % 10 < 10 := Nat.mod_lt _ (by decide)
      have hcat := cat_str [hexDg (x % 10)] (lowDigs 10 k t) (by rw [lowDigs_length]; simp; omega)
      have e1 : (x : Int).tmod 10 = ((x % 10 : Nat) : Int) := by rw [Int.tmod_eq_emod_of_nonneg (by omega)]; simp
      have hsl := slice_dig (x % 10) (by omega)
      have e2 : IntKind.i64.wrap (((x % 10 : Nat) : Int) + 1) = ((x % 10 : Nat) : Int) + 1 := IntWalk.i64_in _ (by omega)
      have hdv : ((x / 10 : Nat) : Int) = (x : Int) / 10 := by simp
      have Hdv := Lib.hid hdv
      clear hdv
      generalize hD : x % 10 = d at *
      have HD := Lib.hid hD
      clear hD
      by_cases h1 : k < least
      · clear hor
        go_wp2
        go_quiet (fail)
        clear hsl e1 e2 hcat
        go_wp2
        go_roundw
        case rel => exact ⟨k + 1, by omega, by go_num, by rw [Hn.out, Hdv.out], by rw [Hc.out], _, rfl⟩
        case measure => simp [intOf]; omega
      · have h2 : (0 : Int) < x := by omega
        clear hor
        go_wp2
        go_quiet (fail)
        clear hsl e1 e2 hcat
        go_wp2
        go_roundw
        case rel => exact ⟨k + 1, by omega, by go_num, by rw [Hn.out, Hdv.out], by rw [Hc.out], _, rfl⟩
        case measure => simp [intOf]; omega
    · have hkN : k = N := by omega
      have hno : ¬ (k < least ∨ 0 < x) := fun h => by rw [← HX.out] at h; exact hlt ((Hg.out k hk).1 h)
      have h1 : ¬ k < least := fun h => hno (.inl h)
      have h2 : decide (0 < x) = false := decide_eq_false fun h => hno (.inr h)
      clear hno
      have HK := Lib.hid hkN
      clear hkN
      go_wp2
      go_ret
      exact ⟨by rw [HK.out]; rfl, n, rfl⟩

/-! ### Text of the reference -/
theorem decDig_any (x : Int) (t : Nat) (hx : Hid ((t : Int) = x)) (ht : t ≤ 4294967296) (w : World) :
    Calls Tryz.prog 78 #[.int .i64 x, .int .i64 10, .int .i64 1] w fun e w' => e = .returned (.string (strOf (Lib.decDigits t))) ∧ ∃ n, w' = w.drewN n := by
  have h := digits10_any 1 t (Lib.nDigits t) (by omega) ht (nDigits_le _ (by omega)) (goesOn_dec _) w
  rw [lowDigs_dec, hx.out] at h
  exact h
theorem hexDig_any (x : Int) (t : Nat) (hx : Hid ((t : Int) = x)) (ht : t < 4294967296) (w : World) :
    Calls Tryz.prog 78 #[.int .i64 x, .int .i64 16, .int .i64 8] w fun e w' => e = .returned (.string (strOf (hexDigs 8 t))) ∧ ∃ n, w' = w.drewN n := by
  have h := digits16_any 8 t 8 (by omega) (by omega) (by omega) (goesOn_hex ht) w
  rw [lowDigs_16, hx.out] at h
  exact h
theorem uns_cast (v : Int) : ((uns v : Nat) : Int) = v % 4294967296 := by unfold uns; omega
theorem dec_bd (v : Int) (hv : isW v) : v.natAbs ≤ 4294967296 := by unfold isW at hv; omega
theorem decDigits_le (t : Nat) (h : t ≤ 4294967296) : (Lib.decDigits t).length ≤ 11 := by rw [Lib.decDigits_length]; exact nDigits_le _ (by omega)
theorem cat_cons (c : UInt8) (b : List UInt8) (h : b.length ≤ 100000) : Op.stringOp .add ⟨#[c]⟩ (strOf b) = pure (.string (strOf (c :: b))) := cat_str [c] b (by simp; omega)
set_option maxHeartbeats 400000 in
theorem RText_any (v : Int) (hex : Bool) (hv : isW v) (w : World) :
    Calls Tryz.prog 63 #[.int .i32 v, .bool hex] w fun e w' => e = .returned (.string (strOf (textL v hex))) ∧ ∃ n, w' = w.drewN n := by
  cases hex
  · have ht := dec_bd v hv
    have C := decDig_any _ v.natAbs (Lib.hid rfl) ht
    have hlen := decDigits_le _ ht
    by_cases hn : v < 0
    · have Hf := Lib.hid (show textL v false = 45 :: Lib.decDigits v.natAbs by unfold textL Lib.itoa; simp [hn])
      have hcat := cat_cons 45 (Lib.decDigits v.natAbs) (by omega)
      clear ht hlen
      generalize hx : (v.natAbs : Int) = x at *
      have Hx := Lib.hid hx
      have CC := Lib.hid C
      clear hx C
      generalize Lib.decDigits v.natAbs = l at *
      go_enter Tryz.func63, Tryz.ntmps63
      go_wp2_with fail
      refine (size_as Hx hv _).mono ?_
      rintro e w' ⟨rfl, rfl⟩
      go_wp2_with fail
      refine (CC.out _).mono ?_
      rintro e w' ⟨rfl, n, rfl⟩
      go_wp2
      go_ret
      exact ⟨by rw [Hf.out]; rfl, n, rfl⟩
    · have hnn : v.natAbs = v.toNat := by omega
      have Hf := Lib.hid (show textL v false = Lib.decDigits v.natAbs by unfold textL Lib.itoa; simp [hn, hnn])
      clear ht hlen hnn
      generalize hx : (v.natAbs : Int) = x at *
      have Hx := Lib.hid hx
      have CC := Lib.hid C
      clear hx C
      generalize Lib.decDigits v.natAbs = l at *
      go_enter Tryz.func63, Tryz.ntmps63
      go_wp2_with fail
      refine (size_as Hx hv _).mono ?_
      rintro e w' ⟨rfl, rfl⟩
      go_wp2_with fail
      refine (CC.out _).mono ?_
      rintro e w' ⟨rfl, n, rfl⟩
      go_wp2
      go_ret
      exact ⟨by rw [Hf.out]; rfl, n, rfl⟩
  · have CC := Lib.hid (hexDig_any (v % 4294967296) (uns v) (Lib.hid (uns_cast v)) (uns_lt v))
    have Hf := Lib.hid (show textL v true = 35 :: hexDigs 8 (uns v) by unfold textL; simp)
    have hcat := cat_cons 35 (hexDigs 8 (uns v)) (by rw [hexDigs_length]; omega)
    generalize hexDigs 8 (uns v) = l at *
    go_enter Tryz.func63, Tryz.ntmps63
    go_wp2_with fail
    refine (Unsigned_any v hv _).mono ?_
    rintro e w' ⟨rfl, rfl⟩
    go_wp2_with fail
    refine (CC.out _).mono ?_
    rintro e w' ⟨rfl, n, rfl⟩
    go_wp2
    go_ret
    exact ⟨by rw [Hf.out]; rfl, n, rfl⟩
end Go.Proofs.YtldnmdadlgjbgaaGreatDoor.W1
