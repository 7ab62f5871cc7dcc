/- Package mem: what makes a memory, and what reads and stores single bytes. -/
import Derived.Test.YtjdinppblejcdaaAddr
namespace Go.Proofs.Ytjdinppblejcdaa
open Go Go.RowKit

/-- The cells of n bytes 0. -/
def zc (n : Nat) : Array Value := (bs (List.replicate n 0)).toArray
theorem run_zeros (n : Nat) (hn : n ≤ 65536) : ∀ w : World, (Instr.makeSlice 30 (.int .i64 (n : Int)) (.int .i64 (n : Int))).run Try.prog w = .ok (.slice (some ⟨w.heap.size, 0, none⟩) n n) (w.alloc (.cells (zc n) 5)) := fun w => by
  obtain ⟨i0, hi0, hz0, hz1, hz2⟩ := info_parts byte_info
  have h := run_make (P := Try.prog) w 30 5 i0 (.int .u8 0) Try.underlying30 hi0 hz0 .i64 .i64 (n : Int) (n : Int) (by omega) (by omega) (by rw [hz2]; omega) (by omega)
  rw [hz1, Int.toNat_natCast, Nat.mul_one] at h
  rw [h]
  have e := toList_madeCells_one (Value.int .u8 0) n
  have e2 : zc n = madeCells #[Value.int .u8 0] n := by
    unfold zc bs
    rw [List.map_replicate]
    apply Array.ext'
    rw [e]
    rfl
  rw [e2]
  rfl
theorem zc_row (w : World) (n : Nat) : (w.alloc (.cells (zc n) 5)).heap[w.heap.size]? = some (.cells (bs (List.replicate n 0)).toArray 5 (0, 0)) := heap_alloc_new w _
theorem own_row {w : World} {B g : Nat} {xs : List Nat} (h : w.heap[g]? = some (.cells (bs xs).toArray 5 (0, 0))) (hB : B ≤ g) (hm : xs.length ≤ maxLen) : OwnB w B (some ⟨g, 0, none⟩) xs.length xs :=
  ⟨by simp [bs_len], .inr ⟨g, xs.length, _, rfl, hB, h, Nat.le_refl _, hm, by simp [bs_len], by simp [← bs_len xs]⟩⟩
/-- A copy of bytes into a row of bytes. -/
theorem copy_put {P : Program} {w : World} {ops : Array Oper} {rest : List Oper} {o : Oper} {a : Act} {Q : Exit → Act → World → Prop} (hgd : o.guard = none) (d s : Operand) (T : TypeId)
    (ho : o.op = .call { callee := .builtin .copy, args := #[d, s], argTypes := #[T, T] }) (elem : TypeId) (hu : P.underlying T = some (.slice elem)) (hsz : (P.info? elem).map (·.size) = some 1)
    (g i n cd c : Nat) (dp sp : Option Addr) (hd : a.eval d = .slice dp n cd) (hs : a.eval s = .slice sp n c) (xs ys : List Nat) (hy : ys.length = n) (t : TypeId) (hg : w.heap[g]? = some (.cells (bs xs).toArray t (0, 0)))
    (hdp : 0 < n → dp = some ⟨g, i, none⟩ ∧ i + n ≤ xs.length) (hsrc : ∀ j, j < ys.length → ∃ ad, sp = some ad ∧ w.cell? (ad.add j) = some (bc ys j))
    (h : ∀ w', w'.heap[g]? = some (.cells (bs (put xs i ys)).toArray t (0, 0)) → w.grownBy w' (some g) → wpList P ops Q rest (a.put o.dst (goInt n)) w') : wpList P ops Q (o :: rest) a w := by
  rcases Nat.eq_zero_or_pos n with h0 | h0
  · subst h0
    obtain rfl : ys = [] := List.eq_nil_of_length_eq_zero hy
    refine wpList_copy_nothing hgd d s T T ho elem hu hsz dp sp 0 cd 0 c hd hs (by simp) ?_
    refine h w ?_ (World.grownBy.refl w _)
    rw [hg, put_nil]
  · obtain ⟨rfl, hfit⟩ := hdp h0
    obtain ⟨ad, rfl, _⟩ := hsrc 0 (by omega)
    have hl : (bs ys).length = n := by rw [bs_len, hy]
    refine wpList_copy_own hgd d s T T ho elem hu hsz g i n cd ad n c hd hs (bs xs).toArray t hg (bs ys) (by rw [hl]; exact (Nat.min_self n).symm) ?_ (by simpa [bs_len, hy] using hfit) (bs_one ys) ?_
    · intro j v hj
      by_cases hjl : j < ys.length
      · obtain ⟨ad', e, hc⟩ := hsrc j hjl
        cases e
        rw [bs_at hjl] at hj
        cases hj
        exact hc
      · rw [List.getElem?_eq_none (by rw [bs_len]; omega)] at hj; cases hj
    · rw [hl]
      refine h _ ?_ (g_row _ _ _)
      rw [setRow_heap w g _ _ t _ hg]
      simp [put, bs, hy]
theorem cloned_any {A : Option Addr} {c : Nat} {xs : List Nat} {w : World} (hx : xs.length ≤ 65536) (R : RS w A c xs) : Calls Try.prog 45 #[.slice A xs.length c] w fun e w' =>
    e = .returned (.slice (some ⟨w.heap.size, 0, none⟩) xs.length xs.length) ∧ w.grownBy w' none ∧ w'.heap[w.heap.size]? = some (.cells (bs xs).toArray 5 (0, 0)) := by
  have hmk := run_zeros xs.length hx
  have HR := Lib.hid R
  obtain ⟨n, hn⟩ : ∃ n, n = xs.length := ⟨_, rfl⟩
  have HN := Lib.hid hn
  clear R
  rw [← hn] at hmk hx ⊢
  clear hn
  go_enter Try.func45, Try.ntmps45
  go_wp2_with (with_reducible refine copy_put (o := ⟨some 9, _, _, _, _, _⟩) rfl (.tmp 7) (.tmp 8) 30 rfl 5 Try.underlying30 (by kernel_rfl) w.heap.size 0 n n c _ A rfl rfl (List.replicate n 0) xs HN.out.symm 5 (zc_row w n) (fun _ => ⟨rfl, by simp⟩) (fun j hj => (HR.out.kept0 (World.grownBy_alloc w _ none)).rd j hj) ?_; intro w1 h1 g1; have H1 := Lib.hid (And.intro h1 g1); clear h1 g1)
  go_ret
  obtain ⟨h1, g1⟩ := H1.out
  refine ⟨rfl, g_new (World.grownBy_alloc w _ none) g1 (Nat.le_refl _), ?_⟩
  rw [h1]
  have e := HN.out
  congr 3
  simp [put, e]
theorem own_world {w : World} {g : Nat} {xs : List Nat} (h : w.heap[g]? = some (.cells (bs xs).toArray 5 (0, 0))) (h1 : xs.length ≤ 65536) (h2 : 1024 ≤ xs.length) (h3 : xs.length % 4 = 0) (hb : BY xs) :
    MemAt (w.alloc (.cells #[.slice (some ⟨g, 0, none⟩) xs.length xs.length, .pointer (some ⟨w.heap.size, 0, none⟩)] 46)) w.heap.size g xs ∧
    w.grownBy (w.alloc (.cells #[.slice (some ⟨g, 0, none⟩) xs.length xs.length, .pointer (some ⟨w.heap.size, 0, none⟩)] 46)) none := by
  have hlt := heap_lt h
  refine ⟨⟨heap_alloc_new w _, ?_, h1, h2, h3, hb⟩, World.grownBy_alloc w _ none⟩
  rw [Below.heap_alloc _ _ _ hlt]
  exact h
theorem owning_any {g : Nat} {xs : List Nat} {w : World} (h : w.heap[g]? = some (.cells (bs xs).toArray 5 (0, 0))) (h1 : xs.length ≤ 65536) (h2 : 1024 ≤ xs.length) (h3 : xs.length % 4 = 0) (hb : BY xs) :
    Calls Try.prog 35 #[.slice (some ⟨g, 0, none⟩) xs.length xs.length] w fun e w' => e = .returned (.pointer (some ⟨w.heap.size, 0, none⟩)) ∧ w.grownBy w' none ∧ MemAt w' w.heap.size g xs := by
  have H := Lib.hid (own_world h h1 h2 h3 hb)
  clear h h1 h2 h3 hb
  go_enter Try.func35, Try.ntmps35
  go_wp2
  go_ret
  exact ⟨rfl, H.out.2, H.out.1⟩
theorem Size_any {p g : Nat} {xs : List Nat} {w : World} (M : MemAt w p g xs) : Calls Try.prog 17 #[.pointer (some ⟨p, 0, none⟩)] w fun e w' => e = .returned (.int .i64 (xs.length : Int)) ∧ w = w' := by
  have C := Lib.hid (made_any M)
  have c0 := M.c0
  clear M
  go_enter Try.func17, Try.ntmps17
  go_wp2_with (go_at_call 44; (with_reducible refine C.out.mono ?_); rintro e w' ⟨rfl, rfl⟩)
  go_ret
  exact ⟨rfl, rfl⟩
theorem MemAt.rs {p g : Nat} {xs : List Nat} {w : World} (M : MemAt w p g xs) : RS w (some ⟨g, 0, none⟩) xs.length xs :=
  ⟨Nat.le_refl _, by have := M.big; unfold maxLen; omega, M.by_, fun j hj => ⟨_, rfl, by rw [add_plain]; simpa using M.cell hj⟩⟩
theorem Bytes_any {p g : Nat} {xs : List Nat} {w : World} (M : MemAt w p g xs) : Calls Try.prog 16 #[.pointer (some ⟨p, 0, none⟩)] w fun e w' =>
    e = .returned (.slice (some ⟨w.heap.size, 0, none⟩) xs.length xs.length) ∧ w.grownBy w' none ∧ w'.heap[w.heap.size]? = some (.cells (bs xs).toArray 5 (0, 0)) := by
  have C := Lib.hid (made_any M)
  have D := Lib.hid (cloned_any M.big M.rs)
  have c0 := M.c0
  clear M
  go_enter Try.func16, Try.ntmps16
  go_wp2_with (first
    | (go_at_call 44; (with_reducible refine C.out.mono ?_); rintro e w' ⟨rfl, rfl⟩)
    | (go_at_call 45; (with_reducible refine D.out.mono ?_); rintro e w1 ⟨rfl, H⟩; have H1 := Lib.hid H; clear H))
  go_ret
  exact ⟨rfl, H1.out⟩
/-- A memory was made, of these bytes, in new blocks. -/
def Made (w : World) (xs : List Nat) (p : Nat) (w' : World) : Prop := ∃ g, w.heap.size ≤ p ∧ w.heap.size ≤ g ∧ w.grownBy w' none ∧ MemAt w' p g xs
theorem Copy_any {p g : Nat} {xs : List Nat} {w : World} (M : MemAt w p g xs) : Calls Try.prog 33 #[.pointer (some ⟨p, 0, none⟩)] w fun e w' =>
    ∃ q, e = .returned (.pointer (some ⟨q, 0, none⟩)) ∧ Made w xs q w' := by
  have C := Lib.hid (made_any M)
  have D := Lib.hid (cloned_any M.big M.rs)
  have c0 := M.c0
  have HM := Lib.hid M
  clear M
  go_enter Try.func33, Try.ntmps33
  go_wp2_with (first
    | (go_at_call 44; (with_reducible refine C.out.mono ?_); rintro e w' ⟨rfl, rfl⟩)
    | (go_at_call 45; (with_reducible refine D.out.mono ?_); rintro e w1 ⟨rfl, H⟩; have H1 := Lib.hid H; clear H)
    | (go_at_call 35; (with_reducible refine (owning_any H1.out.2 HM.out.big HM.out.small HM.out.even HM.out.by_).mono ?_); rintro e w2 ⟨rfl, H⟩; have H2 := Lib.hid H; clear H))
  go_ret
  exact ⟨_, rfl, _, H1.out.1.size, Nat.le_refl _, g_trans H1.out.1 H2.out.1, H2.out.2⟩
/-- The sizes of memories. -/
def may (n : Int) : Bool := decide (1024 ≤ n ∧ n ≤ 65536 ∧ n % 4 = 0)
theorem New_ok {n : Nat} (h : may n = true) (w : World) : Calls Try.prog 10 #[.int .i64 (n : Int)] w fun e w' =>
    ∃ p, e = .returned (.tuple #[.pointer (some ⟨p, 0, none⟩), .int .i64 0]) ∧ Made w (List.replicate n 0) p w' := by
  have C := Lib.hid (at_ (isSize_any n w) (ret_b h))
  have hh : 1024 ≤ n ∧ n ≤ 65536 ∧ n % 4 = 0 := by unfold may at h; simp at h; omega
  have hmk := run_zeros n hh.2.1
  have O := Lib.hid (owning_any (zc_row w n) (by simp; omega) (by simp; omega) (by simp; omega) (by intro x hx; rw [List.eq_of_mem_replicate hx]; omega))
  rw [List.length_replicate] at O
  clear h hh
  go_enter Try.func10, Try.ntmps10
  go_wp2_with (first
    | (go_at_call 34; (with_reducible refine C.out.mono ?_); rintro e w' ⟨rfl, rfl⟩)
    | (go_at_call 35; (with_reducible refine O.out.mono ?_); rintro e w2 ⟨rfl, H⟩; have H2 := Lib.hid H; clear H))
  go_ret2
  exact ⟨_, rfl, _, by simp, Nat.le_refl _, g_trans (World.grownBy_alloc w _ none) H2.out.1, by simpa using H2.out.2⟩
theorem New_no {n : Int} (h : may n = false) (w : World) : Calls Try.prog 10 #[.int .i64 n] w fun e w' => e = .returned (.tuple #[.pointer none, .int .i64 2]) ∧ w = w' := by
  have C := Lib.hid (at_ (isSize_any n w) (ret_b h))
  clear h
  go_enter Try.func10, Try.ntmps10
  go_wp2_with (go_at_call 34; (with_reducible refine C.out.mono ?_); rintro e w' ⟨rfl, rfl⟩)
  go_ret2
  exact ⟨rfl, rfl⟩
theorem From_ok {A : Option Addr} {c : Nat} {xs : List Nat} {w : World} (h : may xs.length = true) (R : RS w A c xs) : Calls Try.prog 18 #[.slice A xs.length c] w fun e w' =>
    ∃ p, e = .returned (.tuple #[.pointer (some ⟨p, 0, none⟩), .int .i64 0]) ∧ Made w xs p w' := by
  have C := Lib.hid (at_ (isSize_any xs.length w) (ret_b h))
  have hh : 1024 ≤ xs.length ∧ xs.length ≤ 65536 ∧ xs.length % 4 = 0 := by unfold may at h; simp at h; omega
  have D := Lib.hid (cloned_any hh.2.1 R)
  have HB := Lib.hid (And.intro hh R.by_)
  clear h hh R
  go_enter Try.func18, Try.ntmps18
  go_wp2_with (first
    | (go_at_call 34; (with_reducible refine C.out.mono ?_); rintro e w' ⟨rfl, rfl⟩)
    | (go_at_call 45; (with_reducible refine D.out.mono ?_); rintro e w1 ⟨rfl, H⟩; have H1 := Lib.hid H; clear H)
    | (go_at_call 35; (with_reducible refine (owning_any H1.out.2 HB.out.1.2.1 HB.out.1.1 HB.out.1.2.2 HB.out.2).mono ?_); rintro e w2 ⟨rfl, H⟩; have H2 := Lib.hid H; clear H))
  go_ret2
  exact ⟨_, rfl, _, H1.out.1.size, Nat.le_refl _, g_trans H1.out.1 H2.out.1, H2.out.2⟩
theorem From_no {A : Option Addr} {c n : Nat} (h : may n = false) (w : World) : Calls Try.prog 18 #[.slice A n c] w fun e w' => e = .returned (.tuple #[.pointer none, .int .i64 2]) ∧ w = w' := by
  have C := Lib.hid (at_ (isSize_any n w) (ret_b h))
  clear h
  go_enter Try.func18, Try.ntmps18
  go_wp2_with (go_at_call 34; (with_reducible refine C.out.mono ?_); rintro e w' ⟨rfl, rfl⟩)
  go_ret2
  exact ⟨rfl, rfl⟩
end Go.Proofs.Ytjdinppblejcdaa
