/- The reference of package mem: a memory is its bytes. -/
import Derived.Test.YtjdinppblejcdaaAcc
namespace Go.Proofs.Ytjdinppblejcdaa
open Go Go.RowKit

theorem May_any (n : Int) (w : World) : Calls Try.prog 11 #[.int .i64 n] w fun e w' => e = .returned (.bool (may n)) ∧ w = w' := by
  unfold may
  by_cases h1 : 1024 ≤ n
  · by_cases h2 : n ≤ 65536
    · go_enter Try.func11, Try.ntmps11
      go_wp2
      go_ret
      refine ⟨ret_b ?_, rfl⟩
      by_cases h3 : n % 4 = 0 <;> simp [h1, h2, h3]
    · go_enter Try.func11, Try.ntmps11
      go_wp2
      go_ret
      exact ⟨ret_b (by simp; omega), rfl⟩
  · go_enter Try.func11, Try.ntmps11
    go_wp2
    go_ret
    exact ⟨ret_b (by simp; omega), rfl⟩
theorem Index_any {a : Int} (ha : isW a) (w : World) : Calls Try.prog 48 #[.int .i32 a] w fun e w' => e = .returned (.int .i64 (ix a : Nat)) ∧ w = w' := by
  have E := ix_cast ha
  have E1 := Lib.hid E
  unfold isW at ha
  obtain ⟨a0, a1⟩ := ha
  clear E
  go_enter Try.func48, Try.ntmps48
  go_wp2
  go_ret
  refine ⟨ret_i ?_, rfl⟩
  rw [E1.out]
theorem Lies_any {a : Int} (ha : isW a) (len n : Nat) (hl : len ≤ 65536) (hn : n < 9223372036854775808) (h0 : n ≠ 0) (w : World) : Calls Try.prog 47 #[.int .i64 (len : Int), .int .i32 a, .int .i64 (n : Int)] w fun e w' =>
    e = .returned (.bool (decide (ix a + n ≤ len))) ∧ w = w' := by
  have C := Lib.hid (Index_any ha)
  clear ha
  generalize ix a = i at *
  have hz : (0 : Int) ≤ (n : Int) := by omega
  by_cases h : (i : Int) < (len : Int)
  · by_cases h2 : (n : Int) ≤ (len : Int) - i
    · have H := Lib.hid (show i + n ≤ len by omega)
      clear hn h0
      go_enter Try.func47, Try.ntmps47
      go_wp2_with (go_at_call 48; (with_reducible refine (C.out _).mono ?_); rintro e w' ⟨rfl, rfl⟩)
      go_ret
      exact ⟨ret_b (by simp [H.out]), rfl⟩
    · have H := Lib.hid (show ¬ i + n ≤ len by omega)
      clear hn h0
      go_enter Try.func47, Try.ntmps47
      go_wp2_with (go_at_call 48; (with_reducible refine (C.out _).mono ?_); rintro e w' ⟨rfl, rfl⟩)
      go_ret
      exact ⟨ret_b (by simp [H.out]; omega), rfl⟩
  · have H := Lib.hid (show ¬ i + n ≤ len by omega)
    clear hn h0
    go_enter Try.func47, Try.ntmps47
    go_wp2_with (go_at_call 48; (with_reducible refine (C.out _).mono ?_); rintro e w' ⟨rfl, rfl⟩)
    go_ret
    exact ⟨ret_b (by simp [H.out]), rfl⟩
/-! What the reference reads. -/
section
variable {A : Option Addr} {c : Nat} {xs : List Nat} {w : World}
theorem RS.some_ (R : RS w A c xs) (h : 0 < xs.length) : ∃ ad, A = some ad ∧ ∀ j, j < xs.length → w.cell? (ad.add j) = some (bc xs j) := by
  obtain ⟨ad, rfl, _⟩ := R.rd 0 h
  refine ⟨ad, rfl, fun j hj => ?_⟩
  obtain ⟨ad', e, hc⟩ := R.rd j hj
  cases e
  exact hc
theorem rByte_any (R : RS w A c xs) (hl : xs.length ≤ 65536) {a : Int} (ha : isW a) : Calls Try.prog 43 #[.slice A xs.length c, .int .i32 a] w fun e w' =>
    e = .returned (.tuple #[.int .u8 (bv xs (ix a) : Nat), .int .i64 (er xs.length (ix a) 1)]) ∧ w = w' := by
  have C' : Calls Try.prog 47 #[.int .i64 (xs.length : Int), .int .i32 a, .int .i64 1] w _ := Lies_any ha xs.length 1 hl (by omega) (by omega) w
  have CI := Lib.hid (Index_any ha)
  by_cases h : ix a + 1 ≤ xs.length
  · have C := Lib.hid (at_ C' (ret_b (decide_eq_true h)))
    obtain ⟨ad, rfl, hc⟩ := R.some_ (by omega)
    have c1 := hc (ix a) (by omega)
    rw [er_in h, show bv xs (ix a) = xs.getD (ix a) 0 from if_pos h]
    unfold bc at c1
    clear R hc ha C'
    generalize xs.getD (ix a) 0 = v at *
    generalize ix a = i at *
    generalize xs.length = L at *
    go_enter Try.func43, Try.ntmps43
    go_wp2_with (first
      | (go_at_call 47; (with_reducible refine C.out.mono ?_); rintro e w' ⟨rfl, rfl⟩)
      | (go_at_call 48; (with_reducible refine (CI.out _).mono ?_); rintro e w' ⟨rfl, rfl⟩))
    go_ret2
    exact ⟨rfl, rfl⟩
  · have C := Lib.hid (at_ C' (ret_b (decide_eq_false h)))
    rw [er_out (by omega) h, show bv xs (ix a) = 0 from if_neg h]
    clear R ha C'
    generalize ix a = i at *
    generalize xs.length = L at *
    go_enter Try.func43, Try.ntmps43
    go_wp2_with (go_at_call 47; (with_reducible refine C.out.mono ?_); rintro e w' ⟨rfl, rfl⟩)
    go_ret2
    exact ⟨rfl, rfl⟩
theorem fit_word {a : Int} {len : Nat} (he : len % 4 = 0) : (ix a + 1 ≤ len ↔ wx a + 4 ≤ len) ∧ ix a - ix a % 4 = wx a := by unfold wx; omega
theorem add_succ_ (a : Addr) (k : Nat) : a.add (k + 1) = ⟨a.block, a.off + (k + 1), none⟩ := by unfold Addr.add; simp
theorem rWord_any (R : RS w A c xs) (hl : xs.length ≤ 65536) (he : xs.length % 4 = 0) {a : Int} (ha : isW a) : Calls Try.prog 20 #[.slice A xs.length c, .int .i32 a] w fun e w' =>
    e = .returned (.tuple #[.int .i32 (wv xs (wx a)), .int .i64 (er xs.length (wx a) 4)]) ∧ w.grownBy w' none := by
  have C' : Calls Try.prog 47 #[.int .i64 (xs.length : Int), .int .i32 a, .int .i64 1] w _ := Lies_any ha xs.length 1 hl (by omega) (by omega) w
  have CI := Lib.hid (Index_any ha)
  obtain ⟨f1, f2⟩ := fit_word (a := a) he
  by_cases h : ix a + 1 ≤ xs.length
  · have C := Lib.hid (at_ C' (ret_b (decide_eq_true h)))
    have h' := f1.1 h
    obtain ⟨ad, rfl, hc⟩ := R.some_ (by omega)
    have c0 := hc (wx a) (by omega)
    have c1 := hc (wx a + 1) (by omega)
    have c2 := hc (wx a + 2) (by omega)
    have c3 := hc (wx a + 3) (by omega)
    have b0 := R.by_.get (wx a)
    have b1 := R.by_.get (wx a + 1)
    have b2 := R.by_.get (wx a + 2)
    have b3 := R.by_.get (wx a + 3)
    rw [er_in h', show wv xs (wx a) = _ from if_pos h']
    have w1 : (ix a : Int) - (ix a : Int) % 4 = (wx a : Int) := by omega
    have hix := ix_lt ha
    have hwx : wx a < 4294967296 := by omega
    unfold bc at c0 c1 c2 c3
    rw [add_succ_] at c1 c2 c3
    clear R hc ha f1 f2 he h C'
    generalize xs.getD (wx a) 0 = v0 at *
    generalize xs.getD (wx a + 1) 0 = v1 at *
    generalize xs.getD (wx a + 2) 0 = v2 at *
    generalize xs.getD (wx a + 3) 0 = v3 at *
    generalize wx a = k at *
    generalize ix a = i at *
    generalize xs.length = L at *
    have q0 : (k : Int) < (L : Int) := by omega
    have q1 : (k : Int) + 1 < (L : Int) := by omega
    have q2 : (k : Int) + 2 < (L : Int) := by omega
    have q3 : (k : Int) + 3 < (L : Int) := by omega
    have p0 : (0 : Int) ≤ (k : Int) := by omega
    have p1 : (0 : Int) ≤ (k : Int) + 1 := by omega
    have p2 : (0 : Int) ≤ (k : Int) + 2 := by omega
    have p3 : (0 : Int) ≤ (k : Int) + 3 := by omega
    have t1 : ((k : Int) + 1).toNat = k + 1 := by omega
    have t2 : ((k : Int) + 2).toNat = k + 2 := by omega
    have t3 : ((k : Int) + 3).toNat = k + 3 := by omega
    have u1 : IntKind.i64.wrap ((k : Int) + 1) = (k : Int) + 1 := by rw [IntKind.wrap_i64]; omega
    have u2 : IntKind.i64.wrap ((k : Int) + 2) = (k : Int) + 2 := by rw [IntKind.wrap_i64]; omega
    have u3 : IntKind.i64.wrap ((k : Int) + 3) = (k : Int) + 3 := by rw [IntKind.wrap_i64]; omega
    go_enter Try.func20, Try.ntmps20
    go_wp2_with (first
      | (go_at_call 47; (with_reducible refine C.out.mono ?_); rintro e w' ⟨rfl, rfl⟩)
      | (go_at_call 48; (with_reducible refine (CI.out _).mono ?_); rintro e w' ⟨rfl, rfl⟩))
    go_quiet (fail)
    go_wp2
    go_ret2
    refine ⟨ret_ii ?_ rfl, g_drew (World.grownBy.refl _ _) _⟩
    unfold wd
    congr 1
  · have C := Lib.hid (at_ C' (ret_b (decide_eq_false h)))
    rw [er_out (by omega) (fun e => h (f1.2 e)), show wv xs (wx a) = 0 from if_neg (fun e => h (f1.2 e))]
    clear R ha f1 f2 C'
    generalize ix a = i at *
    generalize xs.length = L at *
    go_enter Try.func20, Try.ntmps20
    go_wp2_with (go_at_call 47; (with_reducible refine C.out.mono ?_); rintro e w' ⟨rfl, rfl⟩)
    go_ret2
    exact ⟨rfl, World.grownBy.refl _ _⟩
/-- The string of a list of bytes. -/
def str (xs : List Nat) : ByteArray := strOfNums (xs.map fun (n : Nat) => (n : Int))
end
theorem str_any {A : Option Addr} {c : Nat} {xs : List Nat} {w : World} (R : RS w A c xs) (n : Nat) (hn : n = xs.length) : (convert 30 9 (.slice A n c)).run Try.prog w = .ok (.string (str xs)) w := by
  subst hn
  rcases A with _ | ad
  · have h0 : xs = [] := by
      rcases Nat.eq_zero_or_pos xs.length with h | h
      · exact List.eq_nil_of_length_eq_zero h
      · obtain ⟨ad, e, _⟩ := R.rd 0 h
        cases e
    subst h0
    exact run_convert_bytes_nil w _ _ Try.underlying30 Try.underlying5 _ _ _ Try.underlying9
  · rw [run_convert_bytes_string w _ _ 5 _ _ _ Try.underlying30 Try.underlying5 Try.underlying9]
    have hl : (loadCells ad xs.length).run Try.prog w = .ok ((xs.map fun (n : Nat) => (n : Int)).map (Value.int .u8)).toArray w := by
      have := run_loadCells_list (P := Try.prog) w ad (bs xs) (fun j v hj => by
        by_cases h : j < xs.length
        · obtain ⟨ad', e, hc⟩ := R.rd j h
          cases e
          rw [bs_at h] at hj
          cases hj
          exact hc
        · rw [List.getElem?_eq_none (by rw [bs_len]; omega)] at hj; cases hj)
      rw [bs_len] at this
      rw [this]
      simp [bs]
    rw [run_bytesToString w ad _ c _ hl, foldl_push_bytes]
    simp [str, strOfNums, ByteArray.empty, ByteArray.emptyWithCapacity]
    rfl
theorem Same_any {A B : Option Addr} {c d : Nat} {xs : List Nat} {w : World} (R : RS w A c xs) (S : RS w B d xs) : Calls Try.prog 15 #[.slice A xs.length c, .slice B xs.length d] w fun e w' => e = .returned (.bool true) ∧ w = w' := by
  have k1 := str_any R _ rfl
  have k2 := str_any S _ rfl
  generalize str xs = z at *
  generalize xs.length = L at *
  clear R S
  go_enter Try.func15, Try.ntmps15
  go_wp2
  go_ret
  exact ⟨rfl, rfl⟩
end Go.Proofs.Ytjdinppblejcdaa
