/- Package mem: bytes, words and blocks are read and stored. -/
import Derived.Test.YtjdinppblejcdaaMeth
namespace Go.Proofs.Ytjdinppblejcdaa
open Go Go.RowKit

theorem Byte_any {p g : Nat} {xs : List Nat} {w : World} (M : MemAt w p g xs) {a : Int} (ha : isW a) : Calls Try.prog 36 #[.pointer (some ⟨p, 0, none⟩), .int .i32 a] w fun e w' =>
    e = .returned (.tuple #[.int .u8 (bv xs (ix a) : Nat), .int .i64 (er xs.length (ix a) 1)]) ∧ w = w' := by
  by_cases h : ix a + 1 ≤ xs.length
  · have C : Calls Try.prog 49 #[.pointer (some ⟨p, 0, none⟩), .int .i32 a, .int .u64 1] w _ := block_in M ha (n := 1) (by omega) h
    have C := Lib.hid C
    have c1 := M.cell (j := ix a) (by omega)
    rw [er_in h, show bv xs (ix a) = xs.getD (ix a) 0 from if_pos h]
    unfold bc at c1
    clear M
    generalize xs.getD (ix a) 0 = v at *
    generalize ix a = i at *
    go_enter Try.func36, Try.ntmps36
    go_wp2_with (go_at_call 49; (with_reducible refine C.out.mono ?_); rintro e w' ⟨rfl, rfl⟩)
    go_ret2
    exact ⟨rfl, rfl⟩
  · have C : Calls Try.prog 49 #[.pointer (some ⟨p, 0, none⟩), .int .i32 a, .int .u64 1] w _ := block_out M ha (n := 1) (by omega) (by omega) h
    have C := Lib.hid C
    rw [er_out (by omega) h, show bv xs (ix a) = 0 from if_neg h]
    clear M
    go_enter Try.func36, Try.ntmps36
    go_wp2_with (go_at_call 49; (with_reducible refine C.out.mono ?_); rintro e w' ⟨rfl, rfl⟩)
    go_ret2
    exact ⟨rfl, rfl⟩
/-- A store into a memory: the error, and what the memory is behind it. -/
def Stored (w : World) (p g : Nat) (e' : Int) (ys : List Nat) (e : Ending) (w' : World) : Prop := e = .returned (.int .i64 e') ∧ w.grownBy w' (some g) ∧ MemAt w' p g ys
theorem put_one {xs : List Nat} {i v : Nat} (h : i + 1 ≤ xs.length) : wr xs i [v] = xs.set i v := by
  have e := put_step (xs := xs) (ys := [v]) (i := i) (k := 0) (by simpa using h) (by simp)
  rw [List.take_zero, put_nil, Nat.add_zero] at e
  unfold wr
  rw [if_pos (by simpa using h)]
  simpa using e.symm
theorem SetByte_any {p g : Nat} {xs : List Nat} {w : World} (M : MemAt w p g xs) {a : Int} (ha : isW a) {v : Nat} (hv : v < 256) : Calls Try.prog 37 #[.pointer (some ⟨p, 0, none⟩), .int .i32 a, .int .u8 (v : Int)] w
    (Stored w p g (er xs.length (ix a) 1) (wr xs (ix a) [v])) := by
  unfold Stored
  by_cases h : ix a + 1 ≤ xs.length
  · have C : Calls Try.prog 49 #[.pointer (some ⟨p, 0, none⟩), .int .i32 a, .int .u64 1] w _ := block_in M ha (n := 1) (by omega) h
    have C := Lib.hid C
    have c1 := M.cell (j := ix a) (by omega)
    have c2 := M.frozen (ix a)
    have HM := Lib.hid (M.set (i := ix a) hv)
    rw [er_in h, put_one h]
    unfold bc at c1
    clear M
    generalize xs.getD (ix a) 0 = u at *
    generalize ix a = i at *
    go_enter Try.func37, Try.ntmps37
    go_wp2_with (go_at_call 49; (with_reducible refine C.out.mono ?_); rintro e w' ⟨rfl, rfl⟩)
    go_ret
    exact ⟨rfl, g_set _ _ _ _, HM.out⟩
  · have C : Calls Try.prog 49 #[.pointer (some ⟨p, 0, none⟩), .int .i32 a, .int .u64 1] w _ := block_out M ha (n := 1) (by omega) (by omega) h
    have C := Lib.hid C
    rw [er_out (by omega) h, show wr xs (ix a) [v] = xs from if_neg (by simpa using h)]
    have HM := Lib.hid M
    clear M
    go_enter Try.func37, Try.ntmps37
    go_wp2_with (go_at_call 49; (with_reducible refine C.out.mono ?_); rintro e w' ⟨rfl, rfl⟩)
    go_ret
    exact ⟨rfl, World.grownBy.refl _ _, HM.out⟩
theorem wx_eq {a : Int} (ha : isW a) : isW (wrap32 (a - a % 4)) ∧ ix (wrap32 (a - a % 4)) = wx a := by
  unfold isW at ha
  have e : wrap32 (a - a % 4) = a - a % 4 := by unfold wrap32; omega
  rw [e]
  unfold isW ix wx ix
  omega
theorem wordAt_in {p g : Nat} {xs : List Nat} {w : World} (M : MemAt w p g xs) {a : Int} (ha : isW a) (h : wx a + 4 ≤ xs.length) : Calls Try.prog 46 #[.pointer (some ⟨p, 0, none⟩), .int .i32 a] w fun e w' =>
    e = .returned (.tuple #[.slice (some ⟨g, wx a, none⟩) 4 4, .int .i64 0]) ∧ w = w' := by
  obtain ⟨h1, h2⟩ := wx_eq ha
  have C : Calls Try.prog 49 #[.pointer (some ⟨p, 0, none⟩), .int .i32 (wrap32 (a - a % 4)), .int .u64 4] w _ := block_in M h1 (n := 4) (by omega) (by rw [h2]; exact h)
  have C := Lib.hid C
  rw [h2] at C
  clear M h1 h2 h ha
  go_enter Try.func46, Try.ntmps46
  go_wp2_with (first
    | (go_at_call 22; (with_reducible refine (Wcnt_any _ _).mono ?_); rintro e w' ⟨rfl, rfl⟩)
    | (go_at_call 49; (with_reducible refine C.out.mono ?_); rintro e w' ⟨rfl, rfl⟩))
  go_ret2
  exact ⟨rfl, rfl⟩
theorem wordAt_out {p g : Nat} {xs : List Nat} {w : World} (M : MemAt w p g xs) {a : Int} (ha : isW a) (h : ¬ wx a + 4 ≤ xs.length) : Calls Try.prog 46 #[.pointer (some ⟨p, 0, none⟩), .int .i32 a] w fun e w' =>
    e = .returned (.tuple #[.slice none 0 0, .int .i64 4]) ∧ w = w' := by
  obtain ⟨h1, h2⟩ := wx_eq ha
  have C : Calls Try.prog 49 #[.pointer (some ⟨p, 0, none⟩), .int .i32 (wrap32 (a - a % 4)), .int .u64 4] w _ := block_out M h1 (n := 4) (by omega) (by omega) (by rw [h2]; exact h)
  have C := Lib.hid C
  clear M h1 h2 h ha
  go_enter Try.func46, Try.ntmps46
  go_wp2_with (first
    | (go_at_call 22; (with_reducible refine (Wcnt_any _ _).mono ?_); rintro e w' ⟨rfl, rfl⟩)
    | (go_at_call 49; (with_reducible refine C.out.mono ?_); rintro e w' ⟨rfl, rfl⟩))
  go_ret2
  exact ⟨rfl, rfl⟩
theorem or_lo (x y : Nat) : x % 4294967296 ||| y % 4294967296 = (x ||| y) % 4294967296 := by
  have := Nat.or_mod_two_pow (a := x) (b := y) (n := 32)
  rw [show (2 : Nat) ^ 32 = 4294967296 by decide] at this
  exact this.symm
theorem ofInt_wd (x : Nat) : (BitVec.ofInt 32 (wd x)).toNat = x % 4294967296 := by
  rw [BitVec.toNat_ofInt]
  unfold wd wrap32
  omega
theorem i32_or (x y : Nat) : bits .or .i32 (wd x) (wd y) = wd (x ||| y) := by
  show IntKind.i32.wrap ((BitVec.ofInt 32 (wd x) ||| BitVec.ofInt 32 (wd y)).toNat : Int) = _
  rw [BitVec.toNat_or, ofInt_wd, ofInt_wd, or_lo, IntKind.wrap_i32]
  unfold wd wrap32
  omega
theorem or_add (x y k : Nat) (h : x < 2 ^ k) : x ||| y * 2 ^ k = x + y * 2 ^ k := by
  have := Nat.shiftLeft_add_eq_or_of_lt h y
  rw [Nat.shiftLeft_eq] at this
  rw [Nat.or_comm]
  omega
theorem or_four (v0 v1 v2 v3 : Nat) (b0 : v0 < 256) (b1 : v1 < 256) (b2 : v2 < 256) :
    bits .or .i32 (bits .or .i32 (bits .or .i32 (v0 : Int) (v1 * 256)) (v2 * 65536)) (wrap32 (v3 * 16777216)) = wd (v0 + v1 * 256 + v2 * 65536 + v3 * 16777216) := by
  have e0 : (v0 : Int) = wd v0 := by unfold wd wrap32; omega
  have e1 : (v1 : Int) * 256 = wd (v1 * 256) := by unfold wd wrap32; omega
  have e2 : (v2 : Int) * 65536 = wd (v2 * 65536) := by unfold wd wrap32; omega
  have e3 : wrap32 ((v3 : Int) * 16777216) = wd (v3 * 16777216) := by unfold wd; congr 1
  have o1 : v0 ||| v1 * 256 = v0 + v1 * 256 := or_add v0 v1 8 b0
  have o2 : v0 + v1 * 256 ||| v2 * 65536 = v0 + v1 * 256 + v2 * 65536 := or_add _ v2 16 (by omega)
  have o3 : v0 + v1 * 256 + v2 * 65536 ||| v3 * 16777216 = v0 + v1 * 256 + v2 * 65536 + v3 * 16777216 := or_add _ v3 24 (by omega)
  rw [e0, e1, e2, e3, i32_or, i32_or, i32_or, o1, o2, o3]
theorem Word_in {p g : Nat} {xs : List Nat} {w : World} (M : MemAt w p g xs) {a : Int} (ha : isW a) (h : wx a + 4 ≤ xs.length) : Calls Try.prog 19 #[.pointer (some ⟨p, 0, none⟩), .int .i32 a] w fun e w' =>
    e = .returned (.tuple #[.int .i32 (wv xs (wx a)), .int .i64 0]) ∧ w.grownBy w' none := by
  have C := Lib.hid (wordAt_in M ha h)
  have c0 := M.cell (j := wx a) (by omega)
  have c1 := M.cell (j := wx a + 1) (by omega)
  have c2 := M.cell (j := wx a + 2) (by omega)
  have c3 := M.cell (j := wx a + 3) (by omega)
  rw [show wv xs (wx a) = _ from if_pos h]
  have b0 := M.by_.get (wx a)
  have b1 := M.by_.get (wx a + 1)
  have b2 := M.by_.get (wx a + 2)
  have b3 := M.by_.get (wx a + 3)
  unfold bc at c0 c1 c2 c3
  clear M
  generalize xs.getD (wx a) 0 = v0 at *
  generalize xs.getD (wx a + 1) 0 = v1 at *
  generalize xs.getD (wx a + 2) 0 = v2 at *
  generalize xs.getD (wx a + 3) 0 = v3 at *
  generalize wx a = i at *
  go_enter Try.func19, Try.ntmps19
  go_wp2_with (go_at_call 46; (with_reducible refine C.out.mono ?_); rintro e w' ⟨rfl, rfl⟩)
  go_quiet (fail)
  go_wp2
  go_ret2
  refine ⟨ret_ii ?_ rfl, g_drew (World.grownBy.refl _ _) _⟩
  exact or_four v0 v1 v2 v3 b0 b1 b2
theorem Word_out {p g : Nat} {xs : List Nat} {w : World} (M : MemAt w p g xs) {a : Int} (ha : isW a) (h : ¬ wx a + 4 ≤ xs.length) : Calls Try.prog 19 #[.pointer (some ⟨p, 0, none⟩), .int .i32 a] w fun e w' =>
    e = .returned (.tuple #[.int .i32 0, .int .i64 4]) ∧ w.grownBy w' none := by
  have C := Lib.hid (wordAt_out M ha h)
  clear M
  go_enter Try.func19, Try.ntmps19
  go_wp2_with (go_at_call 46; (with_reducible refine C.out.mono ?_); rintro e w' ⟨rfl, rfl⟩)
  go_ret2
  exact ⟨rfl, World.grownBy.refl _ _⟩
theorem Word_any {p g : Nat} {xs : List Nat} {w : World} (M : MemAt w p g xs) {a : Int} (ha : isW a) : Calls Try.prog 19 #[.pointer (some ⟨p, 0, none⟩), .int .i32 a] w fun e w' =>
    e = .returned (.tuple #[.int .i32 (wv xs (wx a)), .int .i64 (er xs.length (wx a) 4)]) ∧ w.grownBy w' none := by
  by_cases h : wx a + 4 ≤ xs.length
  · rw [er_in h]; exact Word_in M ha h
  · rw [er_out (by omega) h, show wv xs (wx a) = 0 from if_neg h]; exact Word_out M ha h
theorem byte_shr (v : Int) : IntKind.u8.wrap v = ((four v).getD 0 0 : Nat) ∧ IntKind.u8.wrap (v / 256) = ((four v).getD 1 0 : Nat) ∧
    IntKind.u8.wrap (v / 65536) = ((four v).getD 2 0 : Nat) ∧ IntKind.u8.wrap (v / 16777216) = ((four v).getD 3 0 : Nat) := by
  simp only [IntKind.wrap, IntKind.bits, IntKind.signed, four, List.getD_cons_zero, List.getD_cons_succ]
  refine ⟨?_, ?_, ?_, ?_⟩ <;> simp <;> omega
theorem SetWord_in {p g : Nat} {xs : List Nat} {w : World} (M : MemAt w p g xs) {a v : Int} (ha : isW a) (h : wx a + 4 ≤ xs.length) : Calls Try.prog 29 #[.pointer (some ⟨p, 0, none⟩), .int .i32 a, .int .i32 v] w
    (Stored w p g 0 (put xs (wx a) (four v))) := by
  unfold Stored
  have C := Lib.hid (wordAt_in M ha h)
  have HM := Lib.hid M
  clear M
  generalize wx a = i at *
  go_enter Try.func29, Try.ntmps29
  go_wp2_with (go_at_call 46; (with_reducible refine C.out.mono ?_); rintro e w' ⟨rfl, rfl⟩)
  go_loopw [21] (fun j wr => ∃ k : Nat, k ≤ 4 ∧ j = .int .i64 k ∧ Hid (w.grownBy wr (some g) ∧ MemAt wr p g (put xs i ((four v).take k)))) (fun j _ => 4 - (intOf j).toNat)
  case atStart => exact ⟨0, by omega, rfl, World.grownBy.refl _ _, by rw [List.take_zero, put_nil]; exact HM.out⟩
  case round =>
    obtain ⟨k, hk, rfl, H⟩ := hrel
    have len1 : ∀ k, k ≤ 4 → (put xs i ((four v).take k)).length = xs.length := fun k hk => put_len (by rw [List.length_take, four_len]; omega)
    have LE := Lib.hid len1
    clear len1
    by_cases hlt : k < 4
    · have c1 := H.out.2.cell (j := i + k) (by rw [LE.out k hk]; omega)
      have c2 := H.out.2.frozen (i + k)
      have BS := byte_shr v
      have FB := (four_by v).get k
      have N := Lib.hid (show MemAt (wr.setCell ⟨g, i + k, none⟩ (.int .u8 ((four v).getD k 0 : Nat))) p g (put xs i ((four v).take (k + 1))) by
        rw [← put_step (by rw [four_len]; exact h) (by rw [four_len]; exact hlt)]
        exact H.out.2.set FB)
      have G := Lib.hid (g_trans H.out.1 (g_set wr g (i + k) (.int .u8 ((four v).getD k 0 : Nat))))
      clear H HM FB
      unfold bc at c1
      generalize (put xs i ((four v).take k)).getD (i + k) 0 = u at *
      obtain ⟨s0, s1, s2, s3⟩ := BS
      obtain rfl | rfl | rfl | rfl : k = 0 ∨ k = 1 ∨ k = 2 ∨ k = 3 := by omega
      · rw [Nat.add_zero] at c1 c2 N G
        generalize (four v).getD 0 0 = d at *
        go_wp2
        go_roundw
        case rel => exact ⟨1, by omega, by go_num, G.out, N.out⟩
        case measure => simp [intOf]
      · generalize (four v).getD 1 0 = d at *
        go_wp2
        go_roundw
        case rel => exact ⟨2, by omega, by go_num, G.out, N.out⟩
        case measure => simp [intOf]
      · generalize (four v).getD 2 0 = d at *
        go_wp2
        go_roundw
        case rel => exact ⟨3, by omega, by go_num, G.out, N.out⟩
        case measure => simp [intOf]
      · generalize (four v).getD 3 0 = d at *
        go_wp2
        go_roundw
        case rel => exact ⟨4, by omega, by go_num, G.out, N.out⟩
        case measure => simp [intOf]
    · obtain rfl : k = 4 := by omega
      go_wp2
      go_ret
      refine ⟨rfl, H.out.1, ?_⟩
      have := H.out.2
      rwa [show (four v).take 4 = four v from List.take_of_length_le (Nat.le_refl _)] at this
theorem SetWord_out {p g : Nat} {xs : List Nat} {w : World} (M : MemAt w p g xs) {a v : Int} (ha : isW a) (h : ¬ wx a + 4 ≤ xs.length) : Calls Try.prog 29 #[.pointer (some ⟨p, 0, none⟩), .int .i32 a, .int .i32 v] w
    (Stored w p g 4 xs) := by
  unfold Stored
  have C := Lib.hid (wordAt_out M ha h)
  have HM := Lib.hid M
  clear M
  go_enter Try.func29, Try.ntmps29
  go_wp2_with (go_at_call 46; (with_reducible refine C.out.mono ?_); rintro e w' ⟨rfl, rfl⟩)
  go_ret
  exact ⟨rfl, World.grownBy.refl _ _, HM.out⟩
theorem SetWord_any {p g : Nat} {xs : List Nat} {w : World} (M : MemAt w p g xs) {a v : Int} (ha : isW a) : Calls Try.prog 29 #[.pointer (some ⟨p, 0, none⟩), .int .i32 a, .int .i32 v] w
    (Stored w p g (er xs.length (wx a) 4) (wr xs (wx a) (four v))) := by
  by_cases h : wx a + 4 ≤ xs.length
  · rw [er_in h, show wr xs (wx a) (four v) = put xs (wx a) (four v) from if_pos h]; exact SetWord_in M ha h
  · rw [er_out (by omega) h, show wr xs (wx a) (four v) = xs from if_neg h]; exact SetWord_out M ha h
/-- The error of Read. -/
def rde (len i : Nat) (n : Int) : Int := if n < 0 then 2 else er len i n.toNat
/-- New bytes were made: the slice of them, and an error. -/
def Reads (w : World) (e' : Int) (ys : List Nat) (e : Ending) (w' : World) : Prop := ∃ A c, e = .returned (.tuple #[.slice A ys.length c, .int .i64 e']) ∧ OwnB w' w.heap.size A c ys ∧ w.grownBy w' none
theorem own_nil (w : World) (B : Nat) : OwnB w B none 0 [] := World.ownsRow_nil w B _ 1
theorem Read_any {p g : Nat} {xs : List Nat} {w : World} (M : MemAt w p g xs) {a n : Int} (ha : isW a) (hn : n < 9223372036854775808) : Calls Try.prog 31 #[.pointer (some ⟨p, 0, none⟩), .int .i32 a, .int .i64 n] w
    (Reads w (rde xs.length (ix a) n) (rd xs (ix a) n.toNat)) := by
  unfold Reads
  have C0 := Lib.hid (made_any M)
  by_cases h0 : n < 0
  · rw [show rde xs.length (ix a) n = 2 from if_pos h0, show n.toNat = 0 by omega, rd_zero]
    clear M
    go_enter Try.func31, Try.ntmps31
    go_wp2_with (go_at_call 44; (with_reducible refine C0.out.mono ?_); rintro e w' ⟨rfl, rfl⟩)
    go_ret2
    exact ⟨none, 0, rfl, own_nil _ _, World.grownBy.refl _ _⟩
  · rw [show rde xs.length (ix a) n = er xs.length (ix a) n.toNat from if_neg h0]
    obtain ⟨m, rfl⟩ := Int.eq_ofNat_of_zero_le (show 0 ≤ n by omega)
    rw [show ((m : Int)).toNat = m by omega]
    by_cases hm : m = 0
    · subst hm
      rw [er_zero, rd_zero]
      have C : Calls Try.prog 49 #[.pointer (some ⟨p, 0, none⟩), .int .i32 a, .int .u64 0] w _ := block_zero M a
      have C := Lib.hid C
      have D := Lib.hid (cloned_any (xs := []) (by simp) (RS.nil w))
      rw [List.length_nil] at D
      clear M
      rw [Int.ofNat_zero]
      go_enter Try.func31, Try.ntmps31
      go_wp2_with (first
        | (go_at_call 44; (with_reducible refine C0.out.mono ?_); rintro e w' ⟨rfl, rfl⟩)
        | (go_at_call 49; (with_reducible refine C.out.mono ?_); rintro e w' ⟨rfl, rfl⟩)
        | (go_at_call 45; (with_reducible refine D.out.mono ?_); rintro e w1 ⟨rfl, H⟩; have H1 := Lib.hid H; clear H))
      go_ret2
      exact ⟨_, _, rfl, own_row H1.out.2 (Nat.le_refl _) (by simp), H1.out.1⟩
    · by_cases h : ix a + m ≤ xs.length
      · rw [er_in h]
        have C := Lib.hid (block_in M ha hm h)
        have hl := rd_len h
        have big := M.big
        have R : RS w (some ⟨g, ix a, none⟩) m (rd xs (ix a) m) := ⟨by rw [hl]; exact Nat.le_refl _, by unfold maxLen; omega, rd_by M.by_, fun j hj => ⟨_, rfl, by rw [add_plain, M.cell (by omega)]; unfold bc; rw [rd_get h (by omega)]⟩⟩
        have D := cloned_any (by rw [hl]; omega) R
        rw [hl] at D
        have D := Lib.hid D
        have HL := Lib.hid hl
        rw [hl]
        have hz : ¬ ((m : Int) < 0) := by omega
        have he : (m : Int) % 18446744073709551616 = m := by omega
        have HB := Lib.hid (show m ≤ 65536 by omega)
        clear M R hl big h hm h0 hn ha
        go_enter Try.func31, Try.ntmps31
        go_wp2_with (first
          | (go_at_call 44; (with_reducible refine C0.out.mono ?_); rintro e w' ⟨rfl, rfl⟩)
          | (go_at_call 49; (with_reducible refine C.out.mono ?_); rintro e w' ⟨rfl, rfl⟩)
          | (go_at_call 45; (with_reducible refine D.out.mono ?_); rintro e w1 ⟨rfl, H⟩; have H1 := Lib.hid H; clear H))
        go_ret2
        refine ⟨_, _, rfl, ?_, H1.out.1⟩
        have := own_row H1.out.2 (Nat.le_refl _) (by have := HB.out; rw [HL.out]; unfold maxLen; omega)
        rwa [HL.out] at this
      · rw [er_out hm h, show rd xs (ix a) m = [] from if_neg h]
        have C := Lib.hid (block_out M ha hm (by omega) h)
        have hz : ¬ ((m : Int) < 0) := by omega
        have he : (m : Int) % 18446744073709551616 = m := by omega
        clear M h hm h0 hn ha
        go_enter Try.func31, Try.ntmps31
        go_wp2_with (first
          | (go_at_call 44; (with_reducible refine C0.out.mono ?_); rintro e w' ⟨rfl, rfl⟩)
          | (go_at_call 49; (with_reducible refine C.out.mono ?_); rintro e w' ⟨rfl, rfl⟩))
        go_ret2
        exact ⟨none, 0, rfl, own_nil _ _, World.grownBy.refl _ _⟩
theorem wr_zero {xs ys : List Nat} (i : Nat) (h : ys.length = 0) : wr xs i ys = xs := by
  rw [List.eq_nil_of_length_eq_zero h, wr_nil]
theorem Write_any {p g : Nat} {xs : List Nat} {w : World} (M : MemAt w p g xs) {a : Int} (ha : isW a) {A : Option Addr} {c : Nat} {ys : List Nat} (R : RS w A c ys) : Calls Try.prog 32 #[.pointer (some ⟨p, 0, none⟩), .int .i32 a, .slice A ys.length c] w
    (Stored w p g (er xs.length (ix a) ys.length) (wr xs (ix a) ys)) := by
  unfold Stored
  have HM := Lib.hid M
  have HR := Lib.hid R
  have hmx := Nat.le_trans R.le R.mx
  unfold maxLen at hmx
  obtain ⟨m, hm⟩ : ∃ m, m = ys.length := ⟨_, rfl⟩
  have HL := Lib.hid hm
  rw [← hm] at hmx ⊢
  have he : (m : Int) % 18446744073709551616 = m := by omega
  by_cases h0 : m = 0
  · rw [wr_zero _ (by omega)]
    subst h0
    rw [er_zero]
    have C : Calls Try.prog 49 #[.pointer (some ⟨p, 0, none⟩), .int .i32 a, .int .u64 0] w _ := block_zero M a
    have C := Lib.hid C
    clear M R hm hmx he
    go_enter Try.func32, Try.ntmps32
    go_wp2_with (first
      | (go_at_call 49; (with_reducible refine C.out.mono ?_); rintro e w' ⟨rfl, rfl⟩)
      | (with_reducible refine wpList_copy_nothing (o := ⟨some 23, _, _, _, _, _⟩) rfl (.tmp 21) (.tmp 22) 30 30 rfl 5 Try.underlying30 (by kernel_rfl) none A 0 0 0 c rfl rfl rfl ?_))
    go_ret
    exact ⟨rfl, World.grownBy.refl _ _, HM.out⟩
  · by_cases h : ix a + m ≤ xs.length
    · rw [er_in h]
      have C := Lib.hid (block_in M ha h0 h)
      have HF := Lib.hid (show wr xs (ix a) ys = put xs (ix a) ys from if_pos (by omega))
      have HI := Lib.hid h
      generalize ix a = i at *
      clear M R hm hmx h0 h ha
      go_enter Try.func32, Try.ntmps32
      go_wp2_with (first
        | (go_at_call 49; (with_reducible refine C.out.mono ?_); rintro e w' ⟨rfl, rfl⟩)
        | (with_reducible refine copy_put (o := ⟨some 23, _, _, _, _, _⟩) rfl (.tmp 21) (.tmp 22) 30 rfl 5 Try.underlying30 (by kernel_rfl) g i m m c _ A rfl rfl xs ys HL.out.symm 5 HM.out.row (fun _ => ⟨rfl, HI.out⟩) HR.out.rd ?_; intro w1 h1 g1; have H1 := Lib.hid (And.intro h1 g1); clear h1 g1))
      go_ret
      refine ⟨rfl, H1.out.2, ?_⟩
      rw [HF.out]
      exact HM.out.stored (put_len (by have := HL.out; have := HI.out; omega)) (put_by HM.out.by_ HR.out.by_) H1.out.2 H1.out.1
    · rw [er_out h0 h, show wr xs (ix a) ys = xs from if_neg (by omega)]
      have C := Lib.hid (block_out M ha h0 (by omega) h)
      clear M R hm hmx h0 h ha
      go_enter Try.func32, Try.ntmps32
      go_wp2_with (go_at_call 49; (with_reducible refine C.out.mono ?_); rintro e w' ⟨rfl, rfl⟩)
      go_ret
      exact ⟨rfl, World.grownBy.refl _ _, HM.out⟩
/-- The error of Move. -/
def mve (len i j n : Nat) : Int := if n = 0 ∨ (i + n ≤ len ∧ j + n ≤ len) then 0 else 4
/-- A count, taken as an unsigned word. -/
def cnt (v : Int) : Nat := (v % 4294967296).toNat
theorem cnt_cast (v : Int) : v % 4294967296 = (cnt v : Int) := by unfold cnt; omega
theorem cnt_lt (v : Int) : cnt v < 4294967296 := by unfold cnt; omega
theorem Move_any {p g : Nat} {xs : List Nat} {w : World} (M : MemAt w p g xs) {a b v : Int} (ha : isW a) (hb : isW b) : Calls Try.prog 30 #[.pointer (some ⟨p, 0, none⟩), .int .i32 a, .int .i32 b, .int .i32 v] w
    (Stored w p g (mve xs.length (ix a) (ix b) (cnt v)) (wr xs (ix a) (rd xs (ix b) (cnt v)))) := by
  unfold Stored
  have HM := Lib.hid M
  have E := cnt_cast v
  have hc := cnt_lt v
  generalize cnt v = m at *
  by_cases h0 : m = 0
  · subst h0
    rw [rd_zero, wr_nil, show mve xs.length (ix a) (ix b) 0 = 0 from if_pos (.inl rfl)]
    have C : Calls Try.prog 49 #[.pointer (some ⟨p, 0, none⟩), .int .i32 a, .int .u64 0] w _ := block_zero M a
    have C := Lib.hid C
    have D : Calls Try.prog 49 #[.pointer (some ⟨p, 0, none⟩), .int .i32 b, .int .u64 0] w _ := block_zero M b
    have D := Lib.hid D
    rw [Int.ofNat_zero] at E
    clear M hc ha hb
    go_enter Try.func30, Try.ntmps30
    go_wp2_with (first
      | (go_at_call 49; (with_reducible refine C.out.mono ?_); rintro e w' ⟨rfl, rfl⟩)
      | (go_at_call 49; (with_reducible refine D.out.mono ?_); rintro e w' ⟨rfl, rfl⟩)
      | (with_reducible refine wpList_copy_nothing (o := ⟨some 38, _, _, _, _, _⟩) rfl (.tmp 36) (.tmp 37) 30 30 rfl 5 Try.underlying30 (by kernel_rfl) none none 0 0 0 0 rfl rfl rfl ?_))
    go_ret
    exact ⟨rfl, World.grownBy.refl _ _, HM.out⟩
  · by_cases h : ix a + m ≤ xs.length
    · have C := Lib.hid (block_in M ha h0 h)
      by_cases h' : ix b + m ≤ xs.length
      · rw [show mve xs.length (ix a) (ix b) m = 0 from if_pos (.inr ⟨h, h'⟩)]
        have D := Lib.hid (block_in M hb h0 h')
        have hl := rd_len h'
        have big := M.big
        have HF := Lib.hid (show wr xs (ix a) (rd xs (ix b) m) = put xs (ix a) (rd xs (ix b) m) from if_pos (by omega))
        have HR := Lib.hid (show RS w (some ⟨g, ix b, none⟩) m (rd xs (ix b) m) from ⟨by rw [hl]; exact Nat.le_refl _, by unfold maxLen; omega, rd_by M.by_, fun j hj => ⟨_, rfl, by rw [add_plain, M.cell (by omega)]; unfold bc; rw [rd_get h' (by omega)]⟩⟩)
        have HI := Lib.hid h
        have HL := Lib.hid hl
        generalize rd xs (ix b) m = ys at *
        generalize ix a = i at *
        generalize ix b = j at *
        clear M h0 h h' ha hb hl big hc
        go_enter Try.func30, Try.ntmps30
        go_wp2_with (first
          | (go_at_call 49; (with_reducible refine C.out.mono ?_); rintro e w' ⟨rfl, rfl⟩)
          | (go_at_call 49; (with_reducible refine D.out.mono ?_); rintro e w' ⟨rfl, rfl⟩)
          | (with_reducible refine copy_put (o := ⟨some 38, _, _, _, _, _⟩) rfl (.tmp 36) (.tmp 37) 30 rfl 5 Try.underlying30 (by kernel_rfl) g i m m m _ (some ⟨g, j, none⟩) rfl rfl xs ys HL.out 5 HM.out.row (fun _ => ⟨rfl, HI.out⟩) HR.out.rd ?_; intro w1 h1 g1; have H1 := Lib.hid (And.intro h1 g1); clear h1 g1))
        go_ret
        refine ⟨rfl, H1.out.2, ?_⟩
        rw [HF.out]
        exact HM.out.stored (put_len (by have := HL.out; have := HI.out; omega)) (put_by HM.out.by_ HR.out.by_) H1.out.2 H1.out.1
      · rw [show mve xs.length (ix a) (ix b) m = 4 from if_neg (by omega), show rd xs (ix b) m = [] from if_neg h', wr_nil]
        have D := Lib.hid (block_out M hb h0 (by omega) h')
        clear M h0 h h' ha hb hc
        go_enter Try.func30, Try.ntmps30
        go_wp2_with (first
          | (go_at_call 49; (with_reducible refine C.out.mono ?_); rintro e w' ⟨rfl, rfl⟩)
          | (go_at_call 49; (with_reducible refine D.out.mono ?_); rintro e w' ⟨rfl, rfl⟩))
        go_ret
        exact ⟨rfl, World.grownBy.refl _ _, HM.out⟩
    · rw [show mve xs.length (ix a) (ix b) m = 4 from if_neg (by omega), show wr xs (ix a) (rd xs (ix b) m) = xs from by
        by_cases h' : ix b + m ≤ xs.length
        · exact if_neg (by rw [rd_len h']; exact h)
        · rw [show rd xs (ix b) m = [] from if_neg h', wr_nil]]
      have C := Lib.hid (block_out M ha h0 (by omega) h)
      clear M h0 h ha hb hc
      go_enter Try.func30, Try.ntmps30
      go_wp2_with (go_at_call 49; (with_reducible refine C.out.mono ?_); rintro e w' ⟨rfl, rfl⟩)
      go_ret
      exact ⟨rfl, World.grownBy.refl _ _, HM.out⟩
end Go.Proofs.Ytjdinppblejcdaa
