/- The reference's encodings. -/
import Derived.Test.YtiblicpaeogihaaPut
namespace Go.Proofs.Ytiblicpaeogihaa
open Go Go.RowKit

def EncF (f : Nat) (v : Int) : Prop := ∀ w : World, Calls Try.prog 31 #[.int .i64 (f : Int), .int .i64 v] w (Made w w.heap.size (.slice none 0 0) (enc f v).length (enc f v))
/-- An append onto a new row of the reference's. -/
theorem made_ref {w0 w w1 : World} {g1 g n c2 c : Nat} {u : Value} {t : TypeId} {xs ys : List Nat} {y : Nat} {l : Nat}
    (h0 : w0.grownBy w none) (hA : w0.heap.size ≤ g)
    (ho : w1.ownsRow w0.heap.size 5 1 (.slice (some ⟨g1, 0, none⟩) (n + 1) c2) (n + 1) (bs (xs ++ [y]))) (hg : (w.alloc (.cells #[u] t)).grownBy w1 (Value.slice (some ⟨g, 0, none⟩) n c).ownBlock) (hl : (Value.slice (some ⟨g, 0, none⟩) n c).ownBlock = some g1 ∨ (w.alloc (.cells #[u] t)).heap.size ≤ g1) (hy : xs ++ [y] = ys) (hn : n + 1 = l) :
    Made w0 w0.heap.size (.slice none 0 0) l ys (.returned (.slice (some ⟨g1, 0, none⟩) (n + 1) c2)) w1 :=
  made_one (v := .slice none 0 0) h0 (.inr ⟨g, rfl, hA⟩) ho hg hl hy hn
set_option maxRecDepth 100000 in
theorem ref_one (f : Nat) (hf : f < 16) (v : Int) (h0 : 0 ≤ v) (h1 : v < 16) : EncF f v := by
  intro w
  have q0 : ¬ v < 0 := by omega
  have q1 : ¬ 16 ≤ v := by omega
  have q2 : (f : Int) < 16 := by omega
  have HE := Lib.hid (enc_lo (fn := f) h0 h1)
  generalize hy : 16 * f + (v % 16).toNat = y at *
  have Y := Lib.hid (show 16 * (f : Int) + v % 16 = (y : Int) by omega)
  clear hf hy
  go_enter Try.func31, Try.ntmps31
  go_wp2_with (at_builtin; refine app_one rfl (.tmp 17) (.tmp 26) rfl w.heap.size 0 0 1 none ⟨w.heap.size, 0, none⟩ [] y rfl rfl (own_nil' _ _) (by rw [cell_new, Y.out]) (by omega) (by simp) ?_; intro g c2 w1 o1 g1 l1; have O1 := Lib.hid (And.intro o1 (And.intro g1 l1)); clear o1 g1 l1)
  go_ret
  rw [HE.out]
  exact made_one (World.grownBy.refl _ _) (.inl rfl) O1.out.1 O1.out.2.1 O1.out.2.2 rfl rfl
set_option maxRecDepth 100000 in
theorem ref_more (f : Nat) (hf : f < 16) (v : Int) (hv : isW v) (h1 : 16 ≤ v) (ih : EncF 2 (v / 16)) : EncF f v := by
  intro w
  have HE := Lib.hid (enc_hi (fn := f) h1)
  have HL := Lib.hid (enc_len 2 (v := v / 16) (by unfold isW at hv; omega))
  have CE : Calls Try.prog 31 #[.int .i64 2, .int .i64 (v / 16)] w _ := ih w
  unfold Made at CE
  have q0 : ¬ v < 0 := by omega
  have q1 : 16 ≤ v := by omega
  have q2 : (f : Int) < 16 := by omega
  have q3 : v ≤ 2147483647 := hv.2
  generalize hy : 16 * f + (v % 16).toNat = y at *
  have Y := Lib.hid (show 16 * (f : Int) + v % 16 = (y : Int) by omega)
  generalize enc 2 (v / 16) = zs at *
  have CE1 := Lib.hid CE
  clear CE
  clear hf hy hv h1 ih
  go_enter Try.func31, Try.ntmps31
  go_wp2_with (first
    | (go_at_call 31; (with_reducible refine CE1.out.mono ?_); rintro e w2 ⟨g2, c2, rfl, o2, g2', l2⟩; have H2 := Lib.hid (And.intro o2 (And.intro g2' l2)); clear o2 g2' l2)
    | (at_builtin; refine app_one rfl (.tmp 17) (.tmp 26) rfl w.heap.size zs.length c2 1 (some ⟨g2, 0, none⟩) ⟨w2.heap.size, 0, none⟩ zs y rfl rfl (H2.out.1.alloc _) (by rw [cell_new, Y.out]) (by have := HL.out; omega) (by have := H2.out.2.1.size; simp; omega) ?_; intro g3 c3 w3 o3 g3' l3; have O3 := Lib.hid (And.intro o3 (And.intro g3' l3)); clear o3 g3' l3))
  go_ret
  have hA : w.heap.size ≤ g2 := by
    rcases H2.out.2.2 with e | e
    · cases e
    · exact e
  exact made_ref H2.out.2.1 hA O3.out.1 O3.out.2.1 O3.out.2.2 HE.out.symm (by rw [HE.out, List.length_append]; rfl)
theorem neg_byte (f : Nat) (hf : f < 16) (v : Int) (h0 : v < 0) : wrap64 (16 * (f : Int) + (wrap64 (v.tmod 16 + 16)).tmod 16) % 256 = ((16 * f + (v % 16).toNat : Nat) : Int) := by
  have h1 : v = 16 * v.tdiv 16 + v.tmod 16 := (Int.mul_tdiv_add_tmod v 16).symm
  have h2 := Int.lt_tmod_of_pos v (show (0 : Int) < 16 by omega)
  have h3 : v.tmod 16 ≤ 0 := by
    have : v.tmod 16 = -((-v).tmod 16) := by rw [Int.neg_tmod]; omega
    have := Int.tmod_nonneg (a := -v) 16 (by omega)
    omega
  have e1 : wrap64 (v.tmod 16 + 16) = v.tmod 16 + 16 := by unfold wrap64; omega
  rw [e1, Int.tmod_eq_emod_of_nonneg (by omega)]
  generalize v.tmod 16 = r at *
  generalize v.tdiv 16 = q at *
  unfold wrap64
  omega
set_option maxRecDepth 100000 in
theorem ref_minus (f : Nat) (hf : f < 16) (v : Int) (hv : isW v) (h0 : v < 0) (ih : EncF 6 ((-1 - v) / 16)) : EncF f v := by
  intro w
  have HE := Lib.hid (enc_neg (fn := f) h0)
  have HL := Lib.hid (enc_len 6 (v := (-1 - v) / 16) (by unfold isW at hv; omega))
  have CE : Calls Try.prog 31 #[.int .i64 6, .int .i64 ((-1 - v) / 16)] w _ := ih w
  unfold Made at CE
  have Y := Lib.hid (neg_byte f hf v h0)
  have q2 : (f : Int) < 16 := by omega
  have q3 : -2147483648 ≤ v := hv.1
  generalize 16 * f + (v % 16).toNat = y at *
  generalize enc 6 ((-1 - v) / 16) = zs at *
  have CE1 := Lib.hid CE
  clear CE
  clear hf hv ih
  go_enter Try.func31, Try.ntmps31
  go_wp2_with (first
    | (go_at_call 31; (with_reducible refine CE1.out.mono ?_); rintro e w2 ⟨g2, c2, rfl, o2, g2', l2⟩; have H2 := Lib.hid (And.intro o2 (And.intro g2' l2)); clear o2 g2' l2)
    | (at_builtin; refine app_one rfl (.tmp 17) (.tmp 26) rfl w.heap.size zs.length c2 1 (some ⟨g2, 0, none⟩) ⟨w2.heap.size, 0, none⟩ zs y rfl rfl (H2.out.1.alloc _) (by rw [cell_new, Y.out]) (by have := HL.out; omega) (by have := H2.out.2.1.size; simp; omega) ?_; intro g3 c3 w3 o3 g3' l3; have O3 := Lib.hid (And.intro o3 (And.intro g3' l3)); clear o3 g3' l3))
  go_ret
  have hA : w.heap.size ≤ g2 := by
    rcases H2.out.2.2 with e | e
    · cases e
    · exact e
  exact made_ref H2.out.2.1 hA O3.out.1 O3.out.2.1 O3.out.2.2 HE.out.symm (by rw [HE.out, List.length_append]; rfl)
theorem ref_nat (n : Nat) : ∀ (f : Nat), f < 16 → isW (n : Int) → EncF f (n : Int) := by
  induction n using Nat.strongRecOn with
  | ind n ih =>
    intro f hf hv
    by_cases h : n < 16
    · exact ref_one f hf _ (by omega) (by omega)
    · refine ref_more f hf _ hv (by omega) ?_
      have := ih (n / 16) (by omega) 2 (by omega) (by unfold isW at hv ⊢; omega)
      rwa [show (((n / 16 : Nat) : Int)) = (n : Int) / 16 by omega] at this
theorem ref_any (f : Nat) (hf : f < 16) (v : Int) (hv : isW v) : EncF f v := by
  by_cases h : v < 0
  · refine ref_minus f hf v hv h ?_
    have := ref_nat ((-1 - v) / 16).toNat 6 (by omega) (by unfold isW at hv ⊢; omega)
    rwa [show ((((-1 - v) / 16).toNat : Nat) : Int) = (-1 - v) / 16 by omega] at this
  · have := ref_nat v.toNat f hf (by unfold isW at hv ⊢; omega)
    rwa [show ((v.toNat : Nat) : Int) = v by omega] at this
end Go.Proofs.Ytiblicpaeogihaa
