/- Encodings are made: by the program onto any row of the call's own, and into a room of eight bytes; by the reference. -/
import Derived.Test.YtiblicpaeogihaaIns
namespace Go.Proofs.Ytiblicpaeogihaa
open Go Go.RowKit

/-- One byte appended to a row of the call's own. -/
theorem app_one {w : World} {ops : Array Oper} {rest : List Oper} {o : Oper} {a : Act} {Q : Exit → Act → World → Prop} (hgd : o.guard = none) (s x : Operand)
    (ho : o.op = .call { callee := .builtin .append, args := #[s, x], argTypes := #[24, 24] }) (base n c k : Nat) (A : Option Addr) (ad : Addr) (xs : List Nat) (y : Nat) (hs : a.eval s = .slice A n c) (hx : a.eval x = .slice (some ad) 1 k)
    (hown : w.ownsRow base 5 1 (.slice A n c) n (bs xs)) (hc : w.cell? ad = some (.int .u8 (y : Int))) (hl : n ≤ 1000000) (hbase : base ≤ w.heap.size)
    (h : ∀ g c2 w', w'.ownsRow base 5 1 (.slice (some ⟨g, 0, none⟩) (n + 1) c2) (n + 1) (bs (xs ++ [y])) → w.grownBy w' (Value.slice A n c).ownBlock → ((Value.slice A n c).ownBlock = some g ∨ w.heap.size ≤ g) → wpList Try.prog ops Q rest (a.put o.dst (.slice (some ⟨g, 0, none⟩) (n + 1) c2)) w') : wpList Try.prog ops Q (o :: rest) a w := by
  obtain ⟨i0, hi0, hz0, hz1, hz2⟩ := info_parts byte_info
  refine wpList_append_lies (w := w) hgd s x 24 ho base 5 i0 (.int .u8 0) 1 1 Try.underlying24 hi0 hz0 hz1 hz2 rfl (by omega) (.slice A n c) n (bs xs) hs hown ad 1 k [.int .u8 (y : Int)] hx rfl ?_ ?_ (by omega)
    (by unfold maxLen; omega) (by omega) hbase w.heap.size rfl ?_
  · intro j u hj
    match j with
    | 0 => simp at hj; subst hj; simpa [Addr.add] using hc
    | j + 1 => simp at hj
  · intro u hu
    simp at hu
    subst hu
    rfl
  · intro g cap w' h1 h2 h3 _
    exact h g cap w' (by rw [bs_app]; exact h1) h2 (h3.imp id (fun e => by omega))
/-- What an encoder leaves: a row of the call's own that is longer by L bytes ys. -/
def Made (w : World) (B : Nat) (v : Value) (l : Nat) (ys : List Nat) (e : Ending) (w' : World) : Prop :=
  ∃ g c, e = .returned (.slice (some ⟨g, 0, none⟩) l c) ∧ w'.ownsRow B 5 1 (.slice (some ⟨g, 0, none⟩) l c) l (bs ys) ∧ w.grownBy w' v.ownBlock ∧ (v.ownBlock = some g ∨ w.heap.size ≤ g)
theorem g_two {a b c : World} {r : Option Nat} {g : Nat} (h : a.grownBy b r) (k : b.grownBy c (some g)) (hg : r = some g ∨ a.heap.size ≤ g) : a.grownBy c r := by
  rcases hg with rfl | hg
  · exact g_trans h k
  · exact ⟨k.os.trans h.os, k.tape.trans h.tape, k.output.trans h.output, Nat.le_trans h.size k.size, fun i hi hr => (k.block i (Nat.lt_of_lt_of_le hi h.size) (by intro e; cases e; omega)).trans (h.block i hi hr)⟩
def EncC (f : Nat) (v : Int) : Prop := ∀ (w : World) (B : Nat) (A : Option Addr) (n c : Nat) (xs : List Nat), w.ownsRow B 5 1 (.slice A n c) n (bs xs) → n ≤ 900000 → B ≤ w.heap.size →
  Calls Try.prog 29 #[.slice A n c, .int .u8 (f : Int), .int .i32 v] w (Made w B (.slice A n c) (n + (enc f v).length) (xs ++ enc f v))
theorem cell_new (w : World) (u : Value) (t : TypeId) : (w.alloc (.cells #[u] t)).cell? ⟨w.heap.size, 0, none⟩ = some u := by rw [cell_of_row _ _ _ _ _ _ (heap_alloc_new w _)]; rfl
/-- The last step of an encoder: one byte onto a row. -/
theorem made_one {w w1 : World} {B g1 n c2 : Nat} {v : Value} {u : Value} {t : TypeId} {A : Option Addr} {c : Nat} {xs ys : List Nat} {y : Nat} {w0 : World} {l : Nat}
    (h0 : w0.grownBy w v.ownBlock) (hA : (Value.slice A n c).ownBlock = v.ownBlock ∨ ∃ g, (Value.slice A n c).ownBlock = some g ∧ w0.heap.size ≤ g)
    (ho : w1.ownsRow B 5 1 (.slice (some ⟨g1, 0, none⟩) (n + 1) c2) (n + 1) (bs (xs ++ [y]))) (hg : (w.alloc (.cells #[u] t)).grownBy w1 (Value.slice A n c).ownBlock) (hl : (Value.slice A n c).ownBlock = some g1 ∨ (w.alloc (.cells #[u] t)).heap.size ≤ g1) (hy : xs ++ [y] = ys) (hn : n + 1 = l) :
    Made w0 B v l ys (.returned (.slice (some ⟨g1, 0, none⟩) (n + 1) c2)) w1 := by
  subst hy hn
  have k1 := g_trans h0 (g_wide (r := v.ownBlock) (World.grownBy_alloc w (.cells #[u] t) none))
  have hs := h0.size
  have hz : (w.alloc (.cells #[u] t)).heap.size = w.heap.size + 1 := by simp
  refine ⟨g1, c2, rfl, ho, ?_, ?_⟩
  · rcases hA with e | ⟨g, e, hgl⟩
    · rw [e] at hg; exact g_trans k1 hg
    · rw [e] at hg; exact g_two k1 hg (.inr hgl)
  · rcases hl with e | e
    · rcases hA with e' | ⟨g, e', hgl⟩
      · rw [← e']; exact .inl e
      · rw [e] at e'; cases e'; exact .inr hgl
    · right; omega
set_option maxRecDepth 100000 in
theorem enc_one (f : Nat) (hf : f < 16) (v : Int) (h0 : 0 ≤ v) (h1 : v < 16) : EncC f v := by
  intro w B A n c xs hown hn hB
  have HO := Lib.hid hown
  have HE := Lib.hid (enc_lo (fn := f) h0 h1)
  have HN := Lib.hid (And.intro hn hB)
  have CB := instrByte_any f hf v
  generalize hy : 16 * f + (v % 16).toNat = y at *
  have CB := Lib.hid CB
  have q0 : ¬ v < 0 := by omega
  have q1 : ¬ 15 < v := by omega
  clear hown hn hB h0 h1 hf hy
  go_enter Try.func29, Try.ntmps29
  go_wp2_with (first
    | (go_at_call 32; (with_reducible refine (CB.out _).mono ?_); rintro e w' ⟨rfl, rfl⟩)
    | (at_builtin; refine app_one rfl (.tmp 22) (.tmp 26) rfl B n c 1 A ⟨w.heap.size, 0, none⟩ xs y rfl rfl (HO.out.alloc _) (cell_new _ _ _) (by have := HN.out; omega) (by have := HN.out.2; simp; omega) ?_; intro g c2 w1 o1 g1 l1; have O1 := Lib.hid (And.intro o1 (And.intro g1 l1)); clear o1 g1 l1))
  go_ret
  exact made_one (World.grownBy.refl _ _) (.inl rfl) O1.out.1 O1.out.2.1 O1.out.2.2 (by rw [HE.out]) (by rw [HE.out]; rfl)
set_option maxRecDepth 100000 in
theorem enc_more (f : Nat) (hf : f < 16) (v : Int) (hv : isW v) (h1 : 16 ≤ v) (ih : EncC 2 (v / 16)) : EncC f v := by
  intro w B A n c xs hown hn hB
  have HO := Lib.hid hown
  have HE := Lib.hid (enc_hi (fn := f) h1)
  have HN := Lib.hid (And.intro hn hB)
  have CB := instrByte_any f hf v
  have HL := Lib.hid (enc_len 2 (v := v / 16) (by unfold isW at hv; omega))
  have CE : Calls Try.prog 29 #[.slice A n c, .int .u8 2, .int .i32 (v / 16)] w _ := ih w B A n c xs hown hn hB
  unfold Made at CE
  generalize hy : 16 * f + (v % 16).toNat = y at *
  have CB := Lib.hid CB
  have q0 : ¬ v < 0 := by omega
  have q1 : 15 < v := by omega
  clear hown hn hB h1 hf hy ih hv
  generalize enc 2 (v / 16) = zs at *
  have CE := Lib.hid CE
  go_enter Try.func29, Try.ntmps29
  go_wp2_with (first
    | (go_at_call 29; (with_reducible refine CE.out.mono ?_); rintro e w2 ⟨g2, c2, rfl, o2, g2', l2⟩; have H2 := Lib.hid (And.intro o2 (And.intro g2' l2)); clear o2 g2' l2)
    | (go_at_call 32; (with_reducible refine (CB.out _).mono ?_); rintro e w' ⟨rfl, rfl⟩)
    | (at_builtin; refine app_one rfl (.tmp 22) (.tmp 26) rfl B (n + zs.length) c2 1 (some ⟨g2, 0, none⟩) ⟨w2.heap.size, 0, none⟩ (xs ++ zs) y rfl rfl (H2.out.1.alloc _) (cell_new _ _ _) (by have := HN.out; have := HL.out; omega) (by have := HN.out.2; have := H2.out.2.1.size; simp; omega) ?_; intro g3 c3 w3 o3 g3' l3; have O3 := Lib.hid (And.intro o3 (And.intro g3' l3)); clear o3 g3' l3))
  go_ret
  refine made_one H2.out.2.1 ?_ O3.out.1 O3.out.2.1 O3.out.2.2 (by rw [HE.out, List.append_assoc]) (by rw [HE.out, List.length_append]; rfl)
  rcases H2.out.2.2 with e | e
  · exact .inl e.symm
  · exact .inr ⟨_, rfl, e⟩
set_option maxRecDepth 100000 in
theorem enc_minus (f : Nat) (hf : f < 16) (v : Int) (hv : isW v) (h1 : v < 0) (ih : EncC 6 ((-1 - v) / 16)) : EncC f v := by
  intro w B A n c xs hown hn hB
  have HO := Lib.hid hown
  have HE := Lib.hid (enc_neg (fn := f) h1)
  have HN := Lib.hid (And.intro hn hB)
  have CB := instrByte_any f hf v
  have HL := Lib.hid (enc_len 6 (v := (-1 - v) / 16) (by unfold isW at hv; omega))
  have CE : Calls Try.prog 29 #[.slice A n c, .int .u8 6, .int .i32 ((-1 - v) / 16)] w _ := ih w B A n c xs hown hn hB
  unfold Made at CE
  generalize hy : 16 * f + (v % 16).toNat = y at *
  have CB := Lib.hid CB
  have q0 : v < 0 := by omega
  have EX := i32_not v hv
  clear hown hn hB h1 hf hy ih hv
  generalize enc 6 ((-1 - v) / 16) = zs at *
  have CE := Lib.hid CE
  go_enter Try.func29, Try.ntmps29
  go_wp2_with (first
    | (go_at_call 29; (with_reducible refine CE.out.mono ?_); rintro e w2 ⟨g2, c2, rfl, o2, g2', l2⟩; have H2 := Lib.hid (And.intro o2 (And.intro g2' l2)); clear o2 g2' l2)
    | (go_at_call 32; (with_reducible refine (CB.out _).mono ?_); rintro e w' ⟨rfl, rfl⟩)
    | (at_builtin; refine app_one rfl (.tmp 22) (.tmp 26) rfl B (n + zs.length) c2 1 (some ⟨g2, 0, none⟩) ⟨w2.heap.size, 0, none⟩ (xs ++ zs) y rfl rfl (H2.out.1.alloc _) (cell_new _ _ _) (by have := HN.out; have := HL.out; omega) (by have := HN.out.2; have := H2.out.2.1.size; simp; omega) ?_; intro g3 c3 w3 o3 g3' l3; have O3 := Lib.hid (And.intro o3 (And.intro g3' l3)); clear o3 g3' l3))
  go_ret
  refine made_one H2.out.2.1 ?_ O3.out.1 O3.out.2.1 O3.out.2.2 (by rw [HE.out, List.append_assoc]) (by rw [HE.out, List.length_append]; rfl)
  rcases H2.out.2.2 with e | e
  · exact .inl e.symm
  · exact .inr ⟨_, rfl, e⟩
theorem enc_nat (n : Nat) : ∀ (f : Nat), f < 16 → isW (n : Int) → EncC f (n : Int) := by
  induction n using Nat.strongRecOn with
  | ind n ih =>
    intro f hf hv
    by_cases h : n < 16
    · exact enc_one f hf _ (by omega) (by omega)
    · refine enc_more f hf _ hv (by omega) ?_
      have := ih (n / 16) (by omega) 2 (by omega) (by unfold isW at hv ⊢; omega)
      rwa [show (((n / 16 : Nat) : Int)) = (n : Int) / 16 by omega] at this
theorem enc_any (f : Nat) (hf : f < 16) (v : Int) (hv : isW v) : EncC f v := by
  by_cases h : v < 0
  · refine enc_minus f hf v hv h ?_
    have := enc_nat ((-1 - v) / 16).toNat 6 (by omega) (by unfold isW at hv ⊢; omega)
    rwa [show ((((-1 - v) / 16).toNat : Nat) : Int) = (-1 - v) / 16 by omega] at this
  · have := enc_nat v.toNat f hf (by unfold isW at hv ⊢; omega)
    rwa [show ((v.toNat : Nat) : Int) = v by omega] at this
end Go.Proofs.Ytiblicpaeogihaa
