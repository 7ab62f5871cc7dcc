/- The reference's search for a mnemonic. -/
import Derived.Deep.AppendLies
import Derived.Deep.RegionHeld3
import Derived.Deep.DrawnRows
import Derived.Test.YtjdjkdgdbdenpaaDoorM11
import Derived.Test.YtjdjkdgdbdenpaaDoorM01
set_option linter.unusedVariables false
set_option linter.unusedSimpArgs false
namespace Go.Proofs.YtjdjkdgdbdenpaaDoor
open Go Go.RowKit

theorem flat_len (l : List (Int × Int)) : (l.flatMap row5).length = l.length * 5 := by
  induction l with
  | nil => rfl
  | cons x l ih => rw [List.flatMap_cons, List.length_append, ih, List.length_cons]; show 5 + _ = _; omega
theorem flat_one (l : List (Int × Int)) : ∀ u ∈ l.flatMap row5, u.oneCell' = true := by
  intro u hu
  obtain ⟨p, _, hp⟩ := List.mem_flatMap.1 hu
  unfold row5 at hp
  simp at hp
  rcases hp with rfl | rfl | rfl | rfl | rfl <;> rfl
theorem insts_len : insts.length = 87 := by decide +kernel
theorem flat_insts : (upF 15).flatMap row5 ++ (upO 90).flatMap row5 = insts.flatMap row5 := by rw [insts_eq, List.flatMap_append]
theorem BoxS.kept' {X Y : World} {k r : Nat} {t : TypeId} {cs : Array Value} (h : BoxS X k t cs) (hne : k ≠ r) (hg : X.grownBy Y (some r)) : BoxS Y k t cs := (hg.block k h.lt (fun e => hne (by cases e; rfl))).trans h
theorem below_row {w X Y : World} {r : Nat} (h : Below w.heap.size w X) (hr : w.heap.size ≤ r) (hg : X.grownBy Y (some r)) : Below w.heap.size w Y :=
  ⟨hg.os.trans h.os, hg.tape.trans h.tape, hg.output.trans h.output, Nat.le_trans h.size hg.size, fun k hk => (hg.block k (Nat.lt_of_lt_of_le hk h.size) (fun e => by cases e; omega)).trans (h.block k hk)⟩
end Go.Proofs.YtjdjkdgdbdenpaaDoor
/- The reference's texts of instructions, and what it reads a text as. -/
namespace Go.Proofs.YtjdjkdgdbdenpaaDoor
open Go Go.RowKit

/-- The bytes ahead of the first space. -/
theorem byte_in (s : ByteArray) {k : Nat} (hk : k < (hd s.data.toList).length) (h : k < s.size) : ((s[k].toNat : Nat) : Int) ≠ 32 := by
  have hl : k < s.data.toList.length := by simpa using h
  have hg : s.data.toList[k] = s[k] := rfl
  have hm : s[k] ∈ hd s.data.toList := by
    have h1 : (hd s.data.toList)[k]? = s.data.toList[k]? := by
      rcases hasSp_cases s.data.toList with ⟨_, h2, _⟩ | ⟨_, h2, _, _⟩
      · conv => rhs; rw [h2]
        rw [List.getElem?_append_left hk]
      · rw [h2]
    rw [List.getElem?_eq_getElem hk, List.getElem?_eq_getElem hl, hg] at h1
    injection h1 with h1
    rw [← h1]
    exact List.getElem_mem hk
  have hne : s[k] ≠ 32 := by
    rcases hasSp_cases s.data.toList with ⟨_, _, h3⟩ | ⟨_, h2, _, h3⟩
    · exact h3 _ hm
    · rw [h2] at hm; exact h3 _ hm
  intro e
  apply hne
  apply UInt8.toNat_inj.1
  show s[k].toNat = 32
  omega
theorem byte_sp (s : ByteArray) (hs : hasSp s.data.toList = true) (h : (hd s.data.toList).length < s.size) : ((s[(hd s.data.toList).length].toNat : Nat) : Int) = 32 := by
  have hl : (hd s.data.toList).length < s.data.toList.length := by simpa using h
  have hg : s.data.toList[(hd s.data.toList).length] = s[(hd s.data.toList).length] := rfl
  rcases hasSp_cases s.data.toList with ⟨_, h2, _⟩ | ⟨h1, _⟩
  · have h1 : s.data.toList[(hd s.data.toList).length]? = some 32 := by
      generalize hd s.data.toList = a at *
      generalize tl s.data.toList = b at *
      rw [h2]
      simp
    rw [List.getElem?_eq_getElem hl, hg] at h1
    injection h1 with h1
    rw [h1]
    rfl
  · rw [h1] at hs; cases hs
theorem hd_size (s : ByteArray) : (hasSp s.data.toList = true → (hd s.data.toList).length + 1 ≤ s.size) ∧ (hasSp s.data.toList = false → (hd s.data.toList).length = s.size) ∧ (hd s.data.toList).length ≤ s.size := by
  have hlen : s.data.toList.length = s.size := by simp
  rcases hasSp_cases s.data.toList with ⟨h1, h2, _⟩ | ⟨h1, h2, _, _⟩
  · have := congrArg List.length h2
    simp at this
    exact ⟨fun _ => by omega, fun h => (by rw [h1] at h; cases h), by omega⟩
  · rw [h2, hlen]
    exact ⟨fun h => (by rw [h1] at h; cases h), fun _ => rfl, Nat.le_refl _⟩
theorem hd_ext (s : ByteArray) : s.extract 0 (hd s.data.toList).length = strOf (hd s.data.toList) := strOf_of (by
  rw [Lib.extract_data, List.drop_zero, Nat.sub_zero]
  rcases hasSp_cases s.data.toList with ⟨h1, h2, _⟩ | ⟨h1, h2, _, _⟩
  · exact (cut_lists h2).1
  · rw [h2, List.take_length])
theorem tl_ext (s : ByteArray) (h : hasSp s.data.toList = true) : s.extract ((hd s.data.toList).length + 1) s.size = strOf (tl s.data.toList) := strOf_of (by
  rw [Lib.extract_to_end]
  rcases hasSp_cases s.data.toList with ⟨h1, h2, _⟩ | ⟨h1, _⟩
  · exact (cut_lists h2).2
  · rw [h1] at h; cases h)
end Go.Proofs.YtjdjkdgdbdenpaaDoor
/- Instructions: validity, equality, the byte of an instruction, the reference's reduction of a number. -/
namespace Go.Proofs.YtjdjkdgdbdenpaaDoor.C4
open Go Go.RowKit

theorem vl_no1 {f : Nat} (h : ¬ f < 16) : valid f = false := by unfold valid; simp; omega
theorem vl_no2 : valid 2 = false := by decide
theorem vl_no6 : valid 6 = false := by decide
theorem vl_yes {f : Nat} (h : f < 16) (h2 : ¬ f = 2) (h6 : ¬ f = 6) : valid f = true := by unfold valid; simp; omega
theorem isValid_any (f : Nat) (v : Int) (w : World) : Calls Tryd.prog 49 #[.agg #[.int .u8 (f : Int), .int .i32 v]] w fun e w' => e = .returned (.bool (valid f)) ∧ w.grownBy w' none := by
  by_cases h1 : f < 16
  · by_cases h2 : f = 2
    · subst h2
      rw [vl_no2]
      go_enter Tryd.func49, Tryd.ntmps49
      go_wp2
      go_ret
      exact ⟨rfl, World.grownBy_alloc w _ none⟩
    · by_cases h6 : f = 6
      · subst h6
        rw [vl_no6]
        go_enter Tryd.func49, Tryd.ntmps49
        go_wp2
        go_ret
        exact ⟨rfl, World.grownBy_alloc w _ none⟩
      · rw [vl_yes h1 h2 h6]
        have q1 : (f : Int) ≤ 15 := by omega
        have q2 : ¬ (f : Int) = 2 := by omega
        have q6 : ¬ (f : Int) = 6 := by omega
        clear h1 h2 h6
        go_enter Tryd.func49, Tryd.ntmps49
        go_wp2
        go_ret
        exact ⟨ret_b (by simp [q2, q6]), World.grownBy_alloc w _ none⟩
  · rw [vl_no1 h1]
    have q1 : ¬ (f : Int) ≤ 15 := by omega
    clear h1
    go_enter Tryd.func49, Tryd.ntmps49
    go_wp2
    go_ret
    exact ⟨rfl, World.grownBy_alloc w _ none⟩
theorem Valid_any (f : Nat) (v : Int) (w : World) : Calls Tryd.prog 51 #[.agg #[.int .u8 (f : Int), .int .i32 v]] w fun e w' => e = .returned (.bool (valid f)) ∧ w.grownBy w' none := by
  by_cases h1 : f < 16
  · by_cases h2 : f = 2
    · subst h2
      rw [vl_no2]
      go_enter Tryd.func51, Tryd.ntmps51
      go_wp2
      go_ret
      exact ⟨rfl, World.grownBy_alloc w _ none⟩
    · by_cases h6 : f = 6
      · subst h6
        rw [vl_no6]
        go_enter Tryd.func51, Tryd.ntmps51
        go_wp2
        go_ret
        exact ⟨rfl, World.grownBy_alloc w _ none⟩
      · rw [vl_yes h1 h2 h6]
        have q1 : (f : Int) < 16 := by omega
        have q2 : ¬ (f : Int) = 2 := by omega
        have q6 : ¬ (f : Int) = 6 := by omega
        clear h1 h2 h6
        go_enter Tryd.func51, Tryd.ntmps51
        go_wp2
        go_ret
        exact ⟨ret_b (by simp [q2, q6]), World.grownBy_alloc w _ none⟩
  · rw [vl_no1 h1]
    have q1 : ¬ (f : Int) < 16 := by omega
    clear h1
    go_enter Tryd.func51, Tryd.ntmps51
    go_wp2
    go_ret
    exact ⟨rfl, World.grownBy_alloc w _ none⟩
/-! The byte of an instruction. -/
theorem i32_and15 (v : Int) : bits .and .i32 v 15 = v % 16 := by
  show IntKind.i32.wrap ((BitVec.ofInt 32 v &&& BitVec.ofInt 32 15).toNat : Int) = _
  rw [BitVec.toNat_and, show (BitVec.ofInt 32 15).toNat = 2 ^ 4 - 1 by decide, Nat.and_two_pow_sub_one_eq_mod, BitVec.toNat_ofInt, IntKind.wrap_i32]
  omega
theorem u8_and15 (n : Nat) : bits .and .u8 (n : Int) 15 = ((n % 16 : Nat) : Int) := by
  show IntKind.u8.wrap ((BitVec.ofInt 8 (n : Int) &&& BitVec.ofInt 8 15).toNat : Int) = _
  rw [BitVec.toNat_and, show (BitVec.ofInt 8 15).toNat = 2 ^ 4 - 1 by decide, Nat.and_two_pow_sub_one_eq_mod, BitVec.toNat_ofInt]
  simp only [IntKind.wrap, IntKind.bits, IntKind.signed]
  simp
  omega
theorem or_add (x y k : Nat) (h : x < 2 ^ k) : y * 2 ^ k ||| x = y * 2 ^ k + x := by
  have := Nat.shiftLeft_add_eq_or_of_lt h y
  rw [Nat.shiftLeft_eq] at this
  omega
theorem u8_or (f d : Nat) (hf : f < 16) (hd : d < 16) : bits .or .u8 ((f : Int) * 16) (d : Int) = ((16 * f + d : Nat) : Int) := by
  show IntKind.u8.wrap ((BitVec.ofInt 8 ((f : Int) * 16) ||| BitVec.ofInt 8 (d : Int)).toNat : Int) = _
  have e1 : (BitVec.ofInt 8 ((f : Int) * 16)).toNat = f * 2 ^ 4 := by rw [BitVec.toNat_ofInt]; omega
  have e2 : (BitVec.ofInt 8 (d : Int)).toNat = d := by rw [BitVec.toNat_ofInt]; omega
  rw [BitVec.toNat_or, e1, e2, or_add d f 4 (by omega)]
  simp only [IntKind.wrap, IntKind.bits, IntKind.signed]
  simp
  omega
theorem instrByte_any (f : Nat) (hf : f < 16) (v : Int) (w : World) : Calls Tryd.prog 67 #[.int .u8 (f : Int), .int .i32 v] w fun e w' => e = .returned (.int .u8 ((16 * f + (v % 16).toNat : Nat) : Int)) ∧ w = w' := by
  have E := Lib.hid (u8_or f (v % 16).toNat hf (by omega))
  have q : (f : Int) < 16 := by omega
  have h1 := i32_and15 v
  clear hf
  go_enter Tryd.func67, Tryd.ntmps67
  go_wp2
  go_ret
  refine ⟨ret_i ?_, rfl⟩
  rw [← E.out]
  congr 1
  omega
theorem i32_not (v : Int) (hv : isW v) : bits .xor .i32 (-1) v = -1 - v := by
  show IntKind.i32.wrap ((BitVec.ofInt 32 (-1) ^^^ BitVec.ofInt 32 v).toNat : Int) = _
  have h1 : BitVec.ofInt 32 (-1) = BitVec.allOnes 32 := by decide
  have h3 : ((BitVec.ofInt 32 v).toNat : Int) = v % 4294967296 := by rw [BitVec.toNat_ofInt]; omega
  rw [h1, BitVec.allOnes_xor, BitVec.toNat_not, IntKind.wrap_i32]
  have := (BitVec.ofInt 32 v).isLt
  unfold isW at hv
  omega
/-! Equality. -/
theorem eq_iv (a b c d : Int) (w : World) : (Op.equalIn 10000 35 (.agg #[.int .u8 a, .int .i32 b]) (.agg #[.int .u8 c, .int .i32 d])).run Tryd.prog w = .ok (a == c && b == d) w := by
  have u3 := Tryd.underlying5
  have a3 := Tryd.isAgg5
  have z3 := Tryd.sizeOf5
  have u4 := Tryd.underlying21
  have a4 := Tryd.isAgg21
  have z4 := Tryd.sizeOf21
  have hS : Tryd.prog.underlying 35 = some (.struct (Tryd.prog.fieldsOf 35)) := by kernel_rfl
  have hp : Tryd.prog.stoodInHeld 35 = false := by kernel_rfl
  rw [show (10000 : Nat) = 9999 + 1 from rfl, run_equalIn_agg w 9999 35 _ _ hS hp]
  simp only [Program.fieldsOf, Tryd.underlying35]
  go_simp
  by_cases h1 : a = c <;> by_cases h2 : b = d <;> simp [h1, h2]
theorem guard_iv : Tryd.prog.eqGuardType Tryd.prog.depth 35 = false := by kernel_rfl
theorem neq_iv (a b c d : Int) (w : World) : (binOp .neq 35 (.agg #[.int .u8 a, .int .i32 b]) (.agg #[.int .u8 c, .int .i32 d])).run Tryd.prog w = .ok (.bool (!(a == c && b == d))) w := by
  rw [run_neq_struct, eq_iv]; rfl
theorem eql_iv (a b c d : Int) (w : World) : (binOp .eql 35 (.agg #[.int .u8 a, .int .i32 b]) (.agg #[.int .u8 c, .int .i32 d])).run Tryd.prog w = .ok (.bool (a == c && b == d)) w := by
  rw [run_eql_struct, eq_iv]; rfl
/-! A number reduced to a word. -/
theorem emod_of_tmod_neg {t : Int} (h : t.tmod 4294967296 < 0) : t.tmod 4294967296 + 4294967296 = t % 4294967296 := by
  have h1 : t = 4294967296 * t.tdiv 4294967296 + t.tmod 4294967296 := (Int.mul_tdiv_add_tmod t 4294967296).symm
  have h2 := Int.lt_tmod_of_pos t (show (0 : Int) < 4294967296 by omega)
  generalize t.tmod 4294967296 = r at *
  generalize t.tdiv 4294967296 = q at *
  omega
theorem emod_of_tmod_nonneg {t : Int} (h : ¬ t.tmod 4294967296 < 0) : t.tmod 4294967296 = t % 4294967296 := by
  have h1 : t = 4294967296 * t.tdiv 4294967296 + t.tmod 4294967296 := (Int.mul_tdiv_add_tmod t 4294967296).symm
  have h2 := Int.tmod_lt_of_pos t (show (0 : Int) < 4294967296 by omega)
  generalize t.tmod 4294967296 = r at *
  generalize t.tdiv 4294967296 = q at *
  omega
theorem tmod_rng (t : Int) : -4294967296 < t.tmod 4294967296 ∧ t.tmod 4294967296 < 4294967296 :=
  ⟨Int.lt_tmod_of_pos t (by omega), Int.tmod_lt_of_pos t (by omega)⟩
/-- A number far from the ends of an int64. -/
def isD (t : Int) : Prop := -4611686018427387904 ≤ t ∧ t ≤ 4611686018427387904
end Go.Proofs.YtjdjkdgdbdenpaaDoor.C4
/- Encodings are made: by the program onto any row of the call's own, and into a room of eight bytes; by the reference. -/
namespace Go.Proofs.YtjdjkdgdbdenpaaDoor.C4
open Go Go.RowKit

/-- One byte appended to a row of the call's own. -/
theorem app_one {w : World} {ops : Array Oper} {rest : List Oper} {o : Oper} {a : Act} {Q : Exit → Act → World → Prop} (hgd : o.guard = none) (s x : Operand)
    (ho : o.op = .call { callee := .builtin .append, args := #[s, x], argTypes := #[23, 23] }) (base n c k : Nat) (A : Option Addr) (ad : Addr) (xs : List Nat) (y : Nat) (hs : a.eval s = .slice A n c) (hx : a.eval x = .slice (some ad) 1 k)
    (hown : w.ownsRow base 5 1 (.slice A n c) n (bs xs)) (hc : w.cell? ad = some (.int .u8 (y : Int))) (hl : n ≤ 1000000) (hbase : base ≤ w.heap.size)
    (h : ∀ g c2 w', w'.ownsRow base 5 1 (.slice (some ⟨g, 0, none⟩) (n + 1) c2) (n + 1) (bs (xs ++ [y])) → w.grownBy w' (Value.slice A n c).ownBlock → ((Value.slice A n c).ownBlock = some g ∨ w.heap.size ≤ g) → wpList Tryd.prog ops Q rest (a.put o.dst (.slice (some ⟨g, 0, none⟩) (n + 1) c2)) w') : wpList Tryd.prog ops Q (o :: rest) a w := by
  obtain ⟨i0, hi0, hz0, hz1, hz2⟩ := info_parts byte_info
  refine wpList_append_lies (w := w) hgd s x 23 ho base 5 i0 (.int .u8 0) 1 1 Tryd.underlying23 hi0 hz0 hz1 hz2 rfl (by omega) (.slice A n c) n (bs xs) hs hown ad 1 k [.int .u8 (y : Int)] hx rfl ?_ ?_ (by omega)
    (by unfold maxLen; omega) (by omega) hbase w.heap.size rfl ?_
  · intro j u hj
    match j with
    | 0 => simp at hj; subst hj; simpa [Addr.add] using hc
    | j + 1 => simp at hj
  · intro u hu
    simp at hu
    subst hu
    rfl
  · intro g cap w' h1 h2 h3 _
    exact h g cap w' (by rw [bs_app]; exact h1) h2 (h3.imp id (fun e => by omega))
/-- What an encoder leaves: a row of the call's own that is longer by L bytes ys. -/
def Made (w : World) (B : Nat) (v : Value) (l : Nat) (ys : List Nat) (e : Ending) (w' : World) : Prop :=
  ∃ g c, e = .returned (.slice (some ⟨g, 0, none⟩) l c) ∧ w'.ownsRow B 5 1 (.slice (some ⟨g, 0, none⟩) l c) l (bs ys) ∧ w.grownBy w' v.ownBlock ∧ (v.ownBlock = some g ∨ w.heap.size ≤ g)
theorem g_two {a b c : World} {r : Option Nat} {g : Nat} (h : a.grownBy b r) (k : b.grownBy c (some g)) (hg : r = some g ∨ a.heap.size ≤ g) : a.grownBy c r := by
  rcases hg with rfl | hg
  · exact g_trans h k
  · exact ⟨k.os.trans h.os, k.tape.trans h.tape, k.output.trans h.output, Nat.le_trans h.size k.size, fun i hi hr => (k.block i (Nat.lt_of_lt_of_le hi h.size) (by intro e; cases e; omega)).trans (h.block i hi hr)⟩
def EncC (f : Nat) (v : Int) : Prop := ∀ (w : World) (B : Nat) (A : Option Addr) (n c : Nat) (xs : List Nat), w.ownsRow B 5 1 (.slice A n c) n (bs xs) → n ≤ 900000 → B ≤ w.heap.size →
  Calls Tryd.prog 50 #[.slice A n c, .int .u8 (f : Int), .int .i32 v] w (Made w B (.slice A n c) (n + (enc f v).length) (xs ++ enc f v))
theorem cell_new (w : World) (u : Value) (t : TypeId) : (w.alloc (.cells #[u] t)).cell? ⟨w.heap.size, 0, none⟩ = some u := by rw [cell_of_row _ _ _ _ _ _ (heap_alloc_new w _)]; rfl
/-- The last step of an encoder: one byte onto a row. -/
theorem made_one {w w1 : World} {B g1 n c2 : Nat} {v : Value} {u : Value} {t : TypeId} {A : Option Addr} {c : Nat} {xs ys : List Nat} {y : Nat} {w0 : World} {l : Nat}
    (h0 : w0.grownBy w v.ownBlock) (hA : (Value.slice A n c).ownBlock = v.ownBlock ∨ ∃ g, (Value.slice A n c).ownBlock = some g ∧ w0.heap.size ≤ g)
    (ho : w1.ownsRow B 5 1 (.slice (some ⟨g1, 0, none⟩) (n + 1) c2) (n + 1) (bs (xs ++ [y]))) (hg : (w.alloc (.cells #[u] t)).grownBy w1 (Value.slice A n c).ownBlock) (hl : (Value.slice A n c).ownBlock = some g1 ∨ (w.alloc (.cells #[u] t)).heap.size ≤ g1) (hy : xs ++ [y] = ys) (hn : n + 1 = l) :
    Made w0 B v l ys (.returned (.slice (some ⟨g1, 0, none⟩) (n + 1) c2)) w1 := by
  subst hy hn
  have k1 := g_trans h0 (g_wide (r := v.ownBlock) (World.grownBy_alloc w (.cells #[u] t) none))
  have hs := h0.size
  have hz : (w.alloc (.cells #[u] t)).heap.size = w.heap.size + 1 := by simp
  refine ⟨g1, c2, rfl, ho, ?_, ?_⟩
  · rcases hA with e | ⟨g, e, hgl⟩
    · rw [e] at hg; exact g_trans k1 hg
    · rw [e] at hg; exact g_two k1 hg (.inr hgl)
  · rcases hl with e | e
    · rcases hA with e' | ⟨g, e', hgl⟩
      · rw [← e']; exact .inl e
      · rw [e] at e'; cases e'; exact .inr hgl
    · right; omega
set_option maxRecDepth 100000 in
theorem enc_one (f : Nat) (hf : f < 16) (v : Int) (h0 : 0 ≤ v) (h1 : v < 16) : EncC f v := by
  intro w B A n c xs hown hn hB
  have HO := Lib.hid hown
  have HE := Lib.hid (enc_lo (fn := f) h0 h1)
  have HN := Lib.hid (And.intro hn hB)
  have CB := instrByte_any f hf v
  generalize hy : 16 * f + (v % 16).toNat = y at *
  have CB := Lib.hid CB
  have q0 : ¬ v < 0 := by omega
  have q1 : ¬ 15 < v := by omega
  clear hown hn hB h0 h1 hf hy
  go_enter Tryd.func50, Tryd.ntmps50
  go_wp2_with (first
    | (go_at_call 67; (with_reducible refine (CB.out _).mono ?_); rintro e w' ⟨rfl, rfl⟩)
    | (at_builtin; refine app_one rfl (.tmp 22) (.tmp 26) rfl B n c 1 A ⟨w.heap.size, 0, none⟩ xs y rfl rfl (HO.out.alloc _) (cell_new _ _ _) (by have := HN.out; omega) (by have := HN.out.2; simp; omega) ?_; intro g c2 w1 o1 g1 l1; have O1 := Lib.hid (And.intro o1 (And.intro g1 l1)); clear o1 g1 l1))
  go_ret
  exact made_one (World.grownBy.refl _ _) (.inl rfl) O1.out.1 O1.out.2.1 O1.out.2.2 (by rw [HE.out]) (by rw [HE.out]; rfl)
set_option maxRecDepth 100000 in
theorem enc_more (f : Nat) (hf : f < 16) (v : Int) (hv : isW v) (h1 : 16 ≤ v) (ih : EncC 2 (v / 16)) : EncC f v := by
  intro w B A n c xs hown hn hB
  have HO := Lib.hid hown
  have HE := Lib.hid (enc_hi (fn := f) h1)
  have HN := Lib.hid (And.intro hn hB)
  have CB := instrByte_any f hf v
  have HL := Lib.hid (enc_len 2 (v := v / 16) (by unfold isW at hv; omega))
  have CE : Calls Tryd.prog 50 #[.slice A n c, .int .u8 2, .int .i32 (v / 16)] w _ := ih w B A n c xs hown hn hB
  unfold Made at CE
  generalize hy : 16 * f + (v % 16).toNat = y at *
  have CB := Lib.hid CB
  have q0 : ¬ v < 0 := by omega
  have q1 : 15 < v := by omega
  clear hown hn hB h1 hf hy ih hv
  generalize enc 2 (v / 16) = zs at *
  have CE := Lib.hid CE
  go_enter Tryd.func50, Tryd.ntmps50
  go_wp2_with (first
    | (go_at_call 50; (with_reducible refine CE.out.mono ?_); rintro e w2 ⟨g2, c2, rfl, o2, g2', l2⟩; have H2 := Lib.hid (And.intro o2 (And.intro g2' l2)); clear o2 g2' l2)
    | (go_at_call 67; (with_reducible refine (CB.out _).mono ?_); rintro e w' ⟨rfl, rfl⟩)
    | (at_builtin; refine app_one rfl (.tmp 22) (.tmp 26) rfl B (n + zs.length) c2 1 (some ⟨g2, 0, none⟩) ⟨w2.heap.size, 0, none⟩ (xs ++ zs) y rfl rfl (H2.out.1.alloc _) (cell_new _ _ _) (by have := HN.out; have := HL.out; omega) (by have := HN.out.2; have := H2.out.2.1.size; simp; omega) ?_; intro g3 c3 w3 o3 g3' l3; have O3 := Lib.hid (And.intro o3 (And.intro g3' l3)); clear o3 g3' l3))
  go_ret
  refine made_one H2.out.2.1 ?_ O3.out.1 O3.out.2.1 O3.out.2.2 (by rw [HE.out, List.append_assoc]) (by rw [HE.out, List.length_append]; rfl)
  rcases H2.out.2.2 with e | e
  · exact .inl e.symm
  · exact .inr ⟨_, rfl, e⟩
set_option maxRecDepth 100000 in
theorem enc_minus (f : Nat) (hf : f < 16) (v : Int) (hv : isW v) (h1 : v < 0) (ih : EncC 6 ((-1 - v) / 16)) : EncC f v := by
  intro w B A n c xs hown hn hB
  have HO := Lib.hid hown
  have HE := Lib.hid (enc_neg (fn := f) h1)
  have HN := Lib.hid (And.intro hn hB)
  have CB := instrByte_any f hf v
  have HL := Lib.hid (enc_len 6 (v := (-1 - v) / 16) (by unfold isW at hv; omega))
  have CE : Calls Tryd.prog 50 #[.slice A n c, .int .u8 6, .int .i32 ((-1 - v) / 16)] w _ := ih w B A n c xs hown hn hB
  unfold Made at CE
  generalize hy : 16 * f + (v % 16).toNat = y at *
  have CB := Lib.hid CB
  have q0 : v < 0 := by omega
  have EX := i32_not v hv
  clear hown hn hB h1 hf hy ih hv
  generalize enc 6 ((-1 - v) / 16) = zs at *
  have CE := Lib.hid CE
  go_enter Tryd.func50, Tryd.ntmps50
  go_wp2_with (first
    | (go_at_call 50; (with_reducible refine CE.out.mono ?_); rintro e w2 ⟨g2, c2, rfl, o2, g2', l2⟩; have H2 := Lib.hid (And.intro o2 (And.intro g2' l2)); clear o2 g2' l2)
    | (go_at_call 67; (with_reducible refine (CB.out _).mono ?_); rintro e w' ⟨rfl, rfl⟩)
    | (at_builtin; refine app_one rfl (.tmp 22) (.tmp 26) rfl B (n + zs.length) c2 1 (some ⟨g2, 0, none⟩) ⟨w2.heap.size, 0, none⟩ (xs ++ zs) y rfl rfl (H2.out.1.alloc _) (cell_new _ _ _) (by have := HN.out; have := HL.out; omega) (by have := HN.out.2; have := H2.out.2.1.size; simp; omega) ?_; intro g3 c3 w3 o3 g3' l3; have O3 := Lib.hid (And.intro o3 (And.intro g3' l3)); clear o3 g3' l3))
  go_ret
  refine made_one H2.out.2.1 ?_ O3.out.1 O3.out.2.1 O3.out.2.2 (by rw [HE.out, List.append_assoc]) (by rw [HE.out, List.length_append]; rfl)
  rcases H2.out.2.2 with e | e
  · exact .inl e.symm
  · exact .inr ⟨_, rfl, e⟩
theorem enc_nat (n : Nat) : ∀ (f : Nat), f < 16 → isW (n : Int) → EncC f (n : Int) := by
  induction n using Nat.strongRecOn with
  | ind n ih =>
    intro f hf hv
    by_cases h : n < 16
    · exact enc_one f hf _ (by omega) (by omega)
    · refine enc_more f hf _ hv (by omega) ?_
      have := ih (n / 16) (by omega) 2 (by omega) (by unfold isW at hv ⊢; omega)
      rwa [show (((n / 16 : Nat) : Int)) = (n : Int) / 16 by omega] at this
theorem enc_any (f : Nat) (hf : f < 16) (v : Int) (hv : isW v) : EncC f v := by
  by_cases h : v < 0
  · refine enc_minus f hf v hv h ?_
    have := enc_nat ((-1 - v) / 16).toNat 6 (by omega) (by unfold isW at hv ⊢; omega)
    rwa [show ((((-1 - v) / 16).toNat : Nat) : Int) = (-1 - v) / 16 by omega] at this
  · have := enc_nat v.toNat f hf (by unfold isW at hv ⊢; omega)
    rwa [show ((v.toNat : Nat) : Int) = v by omega] at this
end Go.Proofs.YtjdjkdgdbdenpaaDoor.C4
