/- Encodings are made into a room of eight bytes: the length of an encoding. -/
import Derived.Lib.JoinLaws
import Derived.Test.YtjdjkdgdbdenpaaDoorM12
set_option linter.unusedVariables false
set_option linter.unusedSimpArgs false
namespace Go.Proofs.YtjdjkdgdbdenpaaDoor.C4
open Go Go.RowKit

/-- A room of eight bytes. -/
def Room (w : World) (g : Nat) : Prop := ∃ cur : Array Value, w.heap[g]? = some (.cells cur 104 (0, 0)) ∧ cur.size = 8
theorem run_room {w : World} (ty : TypeId) {g n k : Nat} {ad : Addr} {u : Value} (R : Room w g) (hn : n + 1 ≤ 8) (hc : w.cell? ad = some u) (h1 : u.oneCell' = true) :
    ∃ w', (Builtin.append_ #[23, 23] ty #[.slice (some ⟨g, 0, none⟩) n 8, .slice (some ad) 1 k]).run Tryd.prog w = .ok (.slice (some ⟨g, 0, none⟩) (n + 1) 8) w' ∧ Room w' g ∧ w.grownBy w' (some g) := by
  obtain ⟨cur, hg, hs⟩ := R
  obtain ⟨i0, hi0, hz0, hz1, hz2⟩ := info_parts byte_info
  have hcell : ∀ j v, [u][j]? = some v → w.cell? (ad.add j) = some v := by
    intro j v hj
    match j with
    | 0 => simp at hj; subst hj; simpa [Addr.add] using hc
    | j + 1 => simp at hj
  have hf := run_firstCells_some (P := Tryd.prog) w i0.size 1 ad 1 k [u] (by rw [hz1]; rfl) hcell
  have hst := run_storeCells_at Tryd.prog g (n * i0.size) 104 [u] 0 cur w hg (by rw [hz1, hs]; simp; omega) (by intro v hv; simp at hv; subst hv; exact h1)
  simp only [Nat.add_zero] at hst
  refine ⟨w.setRow g (List.take (n * i0.size) cur.toList ++ [u] ++ List.drop (n * i0.size + [u].length) cur.toList).toArray, ?_, ?_, g_row _ _ _⟩
  · simp [Builtin.append_, run_underlying Tryd.underlying23, sizeOf, typeInfo, hi0, Builtin.lenOf, hn, hf, Addr.add_lit, hst]
  · refine ⟨_, setRow_heap w g cur _ 104 _ hg, ?_⟩
    simp [hz1]; omega
theorem app_room {w : World} {ops : Array Oper} {rest : List Oper} {o : Oper} {a : Act} {Q : Exit → Act → World → Prop} (hgd : o.guard = none) (s x : Operand)
    (ho : o.op = .call { callee := .builtin .append, args := #[s, x], argTypes := #[23, 23] }) (g n k : Nat) (ad : Addr) (u : Value) (hs : a.eval s = .slice (some ⟨g, 0, none⟩) n 8) (hx : a.eval x = .slice (some ad) 1 k)
    (R : Room w g) (hn : n + 1 ≤ 8) (hc : w.cell? ad = some u) (h1 : u.oneCell' = true) (h : ∀ w', Room w' g → w.grownBy w' (some g) → wpList Tryd.prog ops Q rest (a.put o.dst (.slice (some ⟨g, 0, none⟩) (n + 1) 8)) w') : wpList Tryd.prog ops Q (o :: rest) a w := by
  obtain ⟨w', hr, k1, k2⟩ := run_room (k := k) o.type R hn hc h1
  refine wpList_plain hgd fun K hK => ?_
  unfold Oper.wp execOp
  simp only [ho, resolve, invoke, builtin, Sem.run_bind, Sem.run_pure, Result.andThen_ok, List.map_toArray, List.map_cons, List.map_nil, hs, hx, hr]
  exact hK _ _ (h w' k1 k2)
theorem Room.alloc {w : World} {g : Nat} (R : Room w g) (o : Obj) : Room (w.alloc o) g := by
  obtain ⟨cur, hg, hs⟩ := R
  exact ⟨cur, ((World.grownBy_alloc w o none).block g (heap_lt hg) (by simp)).trans hg, hs⟩
def InRoom (w : World) (g l : Nat) (e : Ending) (w' : World) : Prop := e = .returned (.slice (some ⟨g, 0, none⟩) l 8) ∧ w.grownBy w' (some g) ∧ Room w' g
def EncR (f : Nat) (v : Int) : Prop := ∀ (w : World) (g n : Nat), Room w g → n + (enc f v).length ≤ 8 →
  Calls Tryd.prog 50 #[.slice (some ⟨g, 0, none⟩) n 8, .int .u8 (f : Int), .int .i32 v] w (InRoom w g (n + (enc f v).length))
set_option maxRecDepth 100000 in
theorem room_one (f : Nat) (hf : f < 16) (v : Int) (h0 : 0 ≤ v) (h1 : v < 16) : EncR f v := by
  intro w g n R hn
  have HR := Lib.hid R
  rw [enc_lo (fn := f) h0 h1] at hn ⊢
  have HN := Lib.hid hn
  have CB := instrByte_any f hf v
  generalize hy : 16 * f + (v % 16).toNat = y at *
  have CB := Lib.hid CB
  have q0 : ¬ v < 0 := by omega
  have q1 : ¬ 15 < v := by omega
  clear R hn h0 h1 hf hy
  unfold InRoom
  go_enter Tryd.func50, Tryd.ntmps50
  go_wp2_with (first
    | (go_at_call 67; (with_reducible refine (CB.out _).mono ?_); rintro e w' ⟨rfl, rfl⟩)
    | (at_builtin; refine app_room rfl (.tmp 22) (.tmp 26) rfl g n 1 ⟨w.heap.size, 0, none⟩ _ rfl rfl (HR.out.alloc _) HN.out (cell_new _ _ _) rfl ?_; intro w1 o1 g1; have O1 := Lib.hid (And.intro o1 g1); clear o1 g1))
  go_ret
  exact ⟨rfl, g_trans (g_wide (World.grownBy_alloc w _ none)) O1.out.2, O1.out.1⟩
set_option maxRecDepth 100000 in
theorem room_more (f : Nat) (hf : f < 16) (v : Int) (h1 : 16 ≤ v) (ih : EncR 2 (v / 16)) : EncR f v := by
  intro w g n R hn
  rw [enc_hi (fn := f) h1, List.length_append] at hn ⊢
  have HN := Lib.hid hn
  have CB := instrByte_any f hf v
  have CE : Calls Tryd.prog 50 #[.slice (some ⟨g, 0, none⟩) n 8, .int .u8 2, .int .i32 (v / 16)] w _ := ih w g n R (by omega)
  unfold InRoom at CE
  generalize hy : 16 * f + (v % 16).toNat = y at *
  have CB := Lib.hid CB
  have q0 : ¬ v < 0 := by omega
  have q1 : 15 < v := by omega
  clear R hn h1 hf hy ih
  generalize enc 2 (v / 16) = zs at *
  have CE := Lib.hid CE
  unfold InRoom
  go_enter Tryd.func50, Tryd.ntmps50
  go_wp2_with (first
    | (go_at_call 50; (with_reducible refine CE.out.mono ?_); rintro e w2 ⟨rfl, g2, o2⟩; have H2 := Lib.hid (And.intro g2 o2); clear g2 o2)
    | (go_at_call 67; (with_reducible refine (CB.out _).mono ?_); rintro e w' ⟨rfl, rfl⟩)
    | (at_builtin; refine app_room rfl (.tmp 22) (.tmp 26) rfl g (n + zs.length) 1 ⟨w2.heap.size, 0, none⟩ _ rfl rfl (H2.out.2.alloc _) HN.out (cell_new _ _ _) rfl ?_; intro w1 o1 g1; have O1 := Lib.hid (And.intro o1 g1); clear o1 g1))
  go_ret
  exact ⟨rfl, g_trans (g_trans H2.out.1 (g_wide (World.grownBy_alloc w2 _ none))) O1.out.2, O1.out.1⟩
set_option maxRecDepth 100000 in
theorem room_minus (f : Nat) (hf : f < 16) (v : Int) (hv : isW v) (h1 : v < 0) (ih : EncR 6 ((-1 - v) / 16)) : EncR f v := by
  intro w g n R hn
  rw [enc_neg (fn := f) h1, List.length_append] at hn ⊢
  have HN := Lib.hid hn
  have CB := instrByte_any f hf v
  have CE : Calls Tryd.prog 50 #[.slice (some ⟨g, 0, none⟩) n 8, .int .u8 6, .int .i32 ((-1 - v) / 16)] w _ := ih w g n R (by omega)
  unfold InRoom at CE
  generalize hy : 16 * f + (v % 16).toNat = y at *
  have CB := Lib.hid CB
  have q0 : v < 0 := by omega
  have EX := i32_not v hv
  clear R hn h1 hf hy ih hv
  generalize enc 6 ((-1 - v) / 16) = zs at *
  have CE := Lib.hid CE
  unfold InRoom
  go_enter Tryd.func50, Tryd.ntmps50
  go_wp2_with (first
    | (go_at_call 50; (with_reducible refine CE.out.mono ?_); rintro e w2 ⟨rfl, g2, o2⟩; have H2 := Lib.hid (And.intro g2 o2); clear g2 o2)
    | (go_at_call 67; (with_reducible refine (CB.out _).mono ?_); rintro e w' ⟨rfl, rfl⟩)
    | (at_builtin; refine app_room rfl (.tmp 22) (.tmp 26) rfl g (n + zs.length) 1 ⟨w2.heap.size, 0, none⟩ _ rfl rfl (H2.out.2.alloc _) HN.out (cell_new _ _ _) rfl ?_; intro w1 o1 g1; have O1 := Lib.hid (And.intro o1 g1); clear o1 g1))
  go_ret
  exact ⟨rfl, g_trans (g_trans H2.out.1 (g_wide (World.grownBy_alloc w2 _ none))) O1.out.2, O1.out.1⟩
theorem room_nat (n : Nat) : ∀ (f : Nat), f < 16 → EncR f (n : Int) := by
  induction n using Nat.strongRecOn with
  | ind n ih =>
    intro f hf
    by_cases h : n < 16
    · exact room_one f hf _ (by omega) (by omega)
    · refine room_more f hf _ (by omega) ?_
      have := ih (n / 16) (by omega) 2 (by omega)
      rwa [show (((n / 16 : Nat) : Int)) = (n : Int) / 16 by omega] at this
theorem room_any (f : Nat) (hf : f < 16) (v : Int) (hv : isW v) : EncR f v := by
  by_cases h : v < 0
  · refine room_minus f hf v hv h ?_
    have := room_nat ((-1 - v) / 16).toNat 6 (by omega)
    rwa [show ((((-1 - v) / 16).toNat : Nat) : Int) = (-1 - v) / 16 by omega] at this
  · have := room_nat v.toNat f hf
    rwa [show ((v.toNat : Nat) : Int) = v by omega] at this
end Go.Proofs.YtjdjkdgdbdenpaaDoor.C4
/- The reference's encodings. -/
namespace Go.Proofs.YtjdjkdgdbdenpaaDoor.C4
open Go Go.RowKit

def EncF (f : Nat) (v : Int) : Prop := ∀ w : World, Calls Tryd.prog 52 #[.int .i64 (f : Int), .int .i64 v] w (Made w w.heap.size (.slice none 0 0) (enc f v).length (enc f v))
/-- An append onto a new row of the reference's. -/
theorem made_ref {w0 w w1 : World} {g1 g n c2 c : Nat} {u : Value} {t : TypeId} {xs ys : List Nat} {y : Nat} {l : Nat}
    (h0 : w0.grownBy w none) (hA : w0.heap.size ≤ g)
    (ho : w1.ownsRow w0.heap.size 5 1 (.slice (some ⟨g1, 0, none⟩) (n + 1) c2) (n + 1) (bs (xs ++ [y]))) (hg : (w.alloc (.cells #[u] t)).grownBy w1 (Value.slice (some ⟨g, 0, none⟩) n c).ownBlock) (hl : (Value.slice (some ⟨g, 0, none⟩) n c).ownBlock = some g1 ∨ (w.alloc (.cells #[u] t)).heap.size ≤ g1) (hy : xs ++ [y] = ys) (hn : n + 1 = l) :
    Made w0 w0.heap.size (.slice none 0 0) l ys (.returned (.slice (some ⟨g1, 0, none⟩) (n + 1) c2)) w1 :=
  made_one (v := .slice none 0 0) h0 (.inr ⟨g, rfl, hA⟩) ho hg hl hy hn
set_option maxRecDepth 100000 in
theorem ref_one (f : Nat) (hf : f < 16) (v : Int) (h0 : 0 ≤ v) (h1 : v < 16) : EncF f v := by
  intro w
  have q0 : ¬ v < 0 := by omega
  have q1 : ¬ 16 ≤ v := by omega
  have q2 : (f : Int) < 16 := by omega
  have HE := Lib.hid (enc_lo (fn := f) h0 h1)
  generalize hy : 16 * f + (v % 16).toNat = y at *
  have Y := Lib.hid (show 16 * (f : Int) + v % 16 = (y : Int) by omega)
  clear hf hy
  go_enter Tryd.func52, Tryd.ntmps52
  go_wp2_with (at_builtin; refine app_one rfl (.tmp 17) (.tmp 26) rfl w.heap.size 0 0 1 none ⟨w.heap.size, 0, none⟩ [] y rfl rfl (own_nil' _ _) (by rw [cell_new, Y.out]) (by omega) (by simp) ?_; intro g c2 w1 o1 g1 l1; have O1 := Lib.hid (And.intro o1 (And.intro g1 l1)); clear o1 g1 l1)
  go_ret
  rw [HE.out]
  exact made_one (World.grownBy.refl _ _) (.inl rfl) O1.out.1 O1.out.2.1 O1.out.2.2 rfl rfl
set_option maxRecDepth 100000 in
theorem ref_more (f : Nat) (hf : f < 16) (v : Int) (hv : isW v) (h1 : 16 ≤ v) (ih : EncF 2 (v / 16)) : EncF f v := by
  intro w
  have HE := Lib.hid (enc_hi (fn := f) h1)
  have HL := Lib.hid (enc_len 2 (v := v / 16) (by unfold isW at hv; omega))
  have CE : Calls Tryd.prog 52 #[.int .i64 2, .int .i64 (v / 16)] w _ := ih w
  unfold Made at CE
  have q0 : ¬ v < 0 := by omega
  have q1 : 16 ≤ v := by omega
  have q2 : (f : Int) < 16 := by omega
  have q3 : v ≤ 2147483647 := hv.2
  generalize hy : 16 * f + (v % 16).toNat = y at *
  have Y := Lib.hid (show 16 * (f : Int) + v % 16 = (y : Int) by omega)
  generalize enc 2 (v / 16) = zs at *
  have CE1 := Lib.hid CE
  clear CE
  clear hf hy hv h1 ih
  go_enter Tryd.func52, Tryd.ntmps52
  go_wp2_with (first
    | (go_at_call 52; (with_reducible refine CE1.out.mono ?_); rintro e w2 ⟨g2, c2, rfl, o2, g2', l2⟩; have H2 := Lib.hid (And.intro o2 (And.intro g2' l2)); clear o2 g2' l2)
    | (at_builtin; refine app_one rfl (.tmp 17) (.tmp 26) rfl w.heap.size zs.length c2 1 (some ⟨g2, 0, none⟩) ⟨w2.heap.size, 0, none⟩ zs y rfl rfl (H2.out.1.alloc _) (by rw [cell_new, Y.out]) (by have := HL.out; omega) (by have := H2.out.2.1.size; simp; omega) ?_; intro g3 c3 w3 o3 g3' l3; have O3 := Lib.hid (And.intro o3 (And.intro g3' l3)); clear o3 g3' l3))
  go_ret
  have hA : w.heap.size ≤ g2 := by
    rcases H2.out.2.2 with e | e
    · cases e
    · exact e
  exact made_ref H2.out.2.1 hA O3.out.1 O3.out.2.1 O3.out.2.2 HE.out.symm (by rw [HE.out, List.length_append]; rfl)
theorem neg_byte (f : Nat) (hf : f < 16) (v : Int) (h0 : v < 0) : wrap64 (16 * (f : Int) + (wrap64 (v.tmod 16 + 16)).tmod 16) % 256 = ((16 * f + (v % 16).toNat : Nat) : Int) := by
  have h1 : v = 16 * v.tdiv 16 + v.tmod 16 := (Int.mul_tdiv_add_tmod v 16).symm
  have h2 := Int.lt_tmod_of_pos v (show (0 : Int) < 16 by omega)
  have h3 : v.tmod 16 ≤ 0 := by
    have : v.tmod 16 = -((-v).tmod 16) := by rw [Int.neg_tmod]; omega
    have := Int.tmod_nonneg (a := -v) 16 (by omega)
    omega
  have e1 : wrap64 (v.tmod 16 + 16) = v.tmod 16 + 16 := by unfold wrap64; omega
  rw [e1, Int.tmod_eq_emod_of_nonneg (by omega)]
  generalize v.tmod 16 = r at *
  generalize v.tdiv 16 = q at *
  unfold wrap64
  omega
set_option maxRecDepth 100000 in
theorem ref_minus (f : Nat) (hf : f < 16) (v : Int) (hv : isW v) (h0 : v < 0) (ih : EncF 6 ((-1 - v) / 16)) : EncF f v := by
  intro w
  have HE := Lib.hid (enc_neg (fn := f) h0)
  have HL := Lib.hid (enc_len 6 (v := (-1 - v) / 16) (by unfold isW at hv; omega))
  have CE : Calls Tryd.prog 52 #[.int .i64 6, .int .i64 ((-1 - v) / 16)] w _ := ih w
  unfold Made at CE
  have Y := Lib.hid (neg_byte f hf v h0)
  have q2 : (f : Int) < 16 := by omega
  have q3 : -2147483648 ≤ v := hv.1
  generalize 16 * f + (v % 16).toNat = y at *
  generalize enc 6 ((-1 - v) / 16) = zs at *
  have CE1 := Lib.hid CE
  clear CE
  clear hf hv ih
  go_enter Tryd.func52, Tryd.ntmps52
  go_wp2_with (first
    | (go_at_call 52; (with_reducible refine CE1.out.mono ?_); rintro e w2 ⟨g2, c2, rfl, o2, g2', l2⟩; have H2 := Lib.hid (And.intro o2 (And.intro g2' l2)); clear o2 g2' l2)
    | (at_builtin; refine app_one rfl (.tmp 17) (.tmp 26) rfl w.heap.size zs.length c2 1 (some ⟨g2, 0, none⟩) ⟨w2.heap.size, 0, none⟩ zs y rfl rfl (H2.out.1.alloc _) (by rw [cell_new, Y.out]) (by have := HL.out; omega) (by have := H2.out.2.1.size; simp; omega) ?_; intro g3 c3 w3 o3 g3' l3; have O3 := Lib.hid (And.intro o3 (And.intro g3' l3)); clear o3 g3' l3))
  go_ret
  have hA : w.heap.size ≤ g2 := by
    rcases H2.out.2.2 with e | e
    · cases e
    · exact e
  exact made_ref H2.out.2.1 hA O3.out.1 O3.out.2.1 O3.out.2.2 HE.out.symm (by rw [HE.out, List.length_append]; rfl)
theorem ref_nat (n : Nat) : ∀ (f : Nat), f < 16 → isW (n : Int) → EncF f (n : Int) := by
  induction n using Nat.strongRecOn with
  | ind n ih =>
    intro f hf hv
    by_cases h : n < 16
    · exact ref_one f hf _ (by omega) (by omega)
    · refine ref_more f hf _ hv (by omega) ?_
      have := ih (n / 16) (by omega) 2 (by omega) (by unfold isW at hv ⊢; omega)
      rwa [show (((n / 16 : Nat) : Int)) = (n : Int) / 16 by omega] at this
theorem ref_any (f : Nat) (hf : f < 16) (v : Int) (hv : isW v) : EncF f v := by
  by_cases h : v < 0
  · refine ref_minus f hf v hv h ?_
    have := ref_nat ((-1 - v) / 16).toNat 6 (by omega) (by unfold isW at hv ⊢; omega)
    rwa [show ((((-1 - v) / 16).toNat : Nat) : Int) = (-1 - v) / 16 by omega] at this
  · have := ref_nat v.toNat f hf (by unfold isW at hv ⊢; omega)
    rwa [show ((v.toNat : Nat) : Int) = v by omega] at this
end Go.Proofs.YtjdjkdgdbdenpaaDoor.C4
/- The numbers of bytes of encodings; encodings of instructions, valid or not. -/
namespace Go.Proofs.YtjdjkdgdbdenpaaDoor.C4
open Go Go.RowKit

def ln (f : Nat) (v : Int) : Nat := if valid f then (enc f v).length else 0
def pt (f : Nat) (v : Int) : List Nat := if valid f then enc f v else []
def pe (f : Nat) : Int := if valid f then 0 else 2
theorem valid_lt {f : Nat} (h : valid f = true) : f < 16 := by unfold valid at h; simp at h; omega
theorem pt_by (f : Nat) (v : Int) : BY (pt f v) := by
  unfold pt
  split
  · rename_i h
    exact enc_by (valid_lt h)
  · intro x hx; cases hx
theorem pt_len (f : Nat) (v : Int) : (pt f v).length = ln f v := by unfold pt ln; split <;> rfl
theorem ln_le (f : Nat) {v : Int} (hv : isW v) : ln f v ≤ 8 := by
  unfold ln
  split
  · exact enc_len f hv
  · omega
theorem own_nil (w : World) (B : Nat) : OwnB w B none 0 [] := World.ownsRow_nil w B _ 1
/-- A struct of two cells lies in its box, and stays there. -/
theorem box_cells {w w1 : World} {a b : Value} {t : TypeId} (g : (w.alloc (.cells #[a, b] t)).grownBy w1 none) : w1.cell? ⟨w.heap.size, 0, none⟩ = some a ∧ w1.cell? ⟨w.heap.size, 1, none⟩ = some b :=
  ⟨g.cell (by rw [cell_of_row _ _ _ _ _ _ (heap_alloc_new w _)]; rfl) (by simp), g.cell (by rw [cell_of_row _ _ _ _ _ _ (heap_alloc_new w _)]; rfl) (by simp)⟩
/-- New bytes were made: the slice of them, and an error. -/
def Gives (w : World) (e' : Int) (ys : List Nat) (e : Ending) (w' : World) : Prop := ∃ A c, e = .returned (.tuple #[.slice A ys.length c, .int .i64 e']) ∧ OwnB w' w.heap.size A c ys ∧ w.grownBy w' none
theorem room_new (w : World) : Room (w.alloc (.cells #[.int .u8 0, .int .u8 0, .int .u8 0, .int .u8 0, .int .u8 0, .int .u8 0, .int .u8 0, .int .u8 0] 104)).drew w.heap.size := ⟨_, heap_alloc_new w _, rfl⟩
theorem room_kept {w w1 w2 : World} {o : Obj} (h : w.grownBy w1 none) (g : (w1.alloc o).drew.grownBy w2 (some w1.heap.size)) : w.grownBy w2 none :=
  g_new (g_drew (g_trans h (World.grownBy_alloc w1 o none)) 1) g h.size
theorem room_box {w1 w2 : World} {o : Obj} {k i : Nat} {u : Value} (h : w1.cell? ⟨k, i, none⟩ = some u) (hk : k < w1.heap.size) (g : (w1.alloc o).drew.grownBy w2 (some w1.heap.size)) : w2.cell? ⟨k, i, none⟩ = some u :=
  g.cell (g_drew (World.grownBy_alloc w1 o none) 1 |>.cell h (by simp)) (by intro e; have e' : k = w1.heap.size := Option.some.inj e; omega)
theorem Len_any (f : Nat) {v : Int} (hv : isW v) (w : World) : Calls Tryd.prog 33 #[.agg #[.int .u8 (f : Int), .int .i32 v]] w fun e w' => e = .returned (.int .i64 (ln f v : Nat)) ∧ w.grownBy w' none := by
  have CV := Lib.hid (fun w => isValid_any f v w)
  unfold ln
  cases hf : valid f with
  | false =>
    rw [hf] at CV
    simp only [Bool.false_eq_true, if_false]
    clear hf hv
    go_enter Tryd.func33, Tryd.ntmps33
    go_wp2_with (go_at_call 49; (with_reducible refine (CV.out _).mono ?_); rintro e w1 ⟨rfl, g1⟩; have G1 := Lib.hid g1; clear g1)
    go_ret
    exact ⟨rfl, g_trans (World.grownBy_alloc w _ none) G1.out⟩
  | true =>
    rw [hf] at CV
    simp only [if_true]
    have CE := Lib.hid (fun (w1 : World) (g : Nat) (R : Room w1 g) => room_any f (valid_lt hf) v hv w1 g 0 R (by have := enc_len f hv; omega))
    unfold InRoom at CE
    clear hf hv
    generalize enc f v = zs at *
    rw [Nat.zero_add] at CE
    go_enter Tryd.func33, Tryd.ntmps33
    go_wp2_with (go_at_call 49; (with_reducible refine (CV.out _).mono ?_); rintro e w1 ⟨rfl, g1⟩; have G1 := Lib.hid (g_trans (World.grownBy_alloc w _ none) g1); obtain ⟨k0, k1⟩ := box_cells g1; have hz : w.heap.size < w1.heap.size := (by have := g1.size; simp at this; omega); clear g1)
    go_region_held3 (fun w' => w'.cell? ⟨w.heap.size, 0, none⟩ = some (.int .u8 (f : Int)) ∧ w'.cell? ⟨w.heap.size, 1, none⟩ = some (.int .i32 v)) (first | (exact ⟨k0, k1⟩) | go_keep)
      (first | (go_at_call 50; (with_reducible refine (CE.out _ _ (room_new w1)).mono ?_); rintro e w2 ⟨rfl, g2, o2⟩; have H2 := Lib.hid (room_kept G1.out g2); have k2 := (room_box k0 hz g2); have k3 := (room_box k1 hz g2); clear g2 o2; have k0 := k2; have k1 := k3; clear k2 k3))
    all_goals go_wp2
    go_ret
    exact ⟨rfl, H2.out⟩
theorem own_lower {w' : World} {B B' c : Nat} {A : Option Addr} {xs : List Nat} (h : B ≤ B') (o : OwnB w' B' A c xs) : OwnB w' B A c xs :=
  ⟨o.1, o.2.imp id (fun ⟨g, cap, cur, h1, h2, h3⟩ => ⟨g, cap, cur, h1, Nat.le_trans h h2, h3⟩)⟩
theorem rPut_any (f : Nat) {v : Int} (hv : isW v) (w : World) : Calls Tryd.prog 36 #[.agg #[.int .u8 (f : Int), .int .i32 v]] w (Gives w (pe f) (pt f v)) := by
  unfold Gives
  have CV := Lib.hid (fun w => Valid_any f v w)
  unfold pe pt
  cases hf : valid f with
  | false =>
    rw [hf] at CV
    simp only [Bool.false_eq_true, if_false]
    clear hf hv
    go_enter Tryd.func36, Tryd.ntmps36
    go_wp2_with (go_at_call 51; (with_reducible refine (CV.out _).mono ?_); rintro e w1 ⟨rfl, g1⟩; have G1 := Lib.hid g1; clear g1)
    go_ret2
    exact ⟨none, 0, rfl, own_nil _ _, g_trans (World.grownBy_alloc w _ none) G1.out⟩
  | true =>
    rw [hf] at CV
    simp only [if_true]
    have CE := Lib.hid (fun (w1 : World) => ref_any f (valid_lt hf) v hv w1)
    unfold Made at CE
    have q : (f : Int) < 16 := by have := valid_lt hf; omega
    have q1 : -2147483648 ≤ v := hv.1
    have q2 : v ≤ 2147483647 := hv.2
    clear hf hv
    generalize enc f v = zs at *
    go_enter Tryd.func36, Tryd.ntmps36
    go_wp2_with (first
      | (go_at_call 51; (with_reducible refine (CV.out _).mono ?_); rintro e w1 ⟨rfl, g1⟩; have G1 := Lib.hid (g_trans (World.grownBy_alloc w _ none) g1); obtain ⟨k0, k1⟩ := box_cells g1; clear g1)
      | (go_at_call 52; (with_reducible refine (CE.out _).mono ?_); rintro e w2 ⟨g2, c2, rfl, o2, g2', l2⟩; have H2 := Lib.hid (And.intro o2 (And.intro g2' l2)); clear o2 g2' l2))
    go_ret2
    exact ⟨_, _, rfl, own_lower G1.out.size H2.out.1, g_trans G1.out H2.out.2.1⟩
theorem rLen_any (f : Nat) {v : Int} (hv : isW v) (w : World) : Calls Tryd.prog 23 #[.agg #[.int .u8 (f : Int), .int .i32 v]] w fun e w' => e = .returned (.int .i64 (ln f v : Nat)) ∧ w.grownBy w' none := by
  have C := Lib.hid (fun w => rPut_any f hv w)
  unfold Gives at C
  rw [pt_len] at C
  clear hv
  generalize pt f v = zs at *
  generalize pe f = E at *
  generalize ln f v = L at *
  go_enter Tryd.func23, Tryd.ntmps23
  go_wp2_with (go_at_call 36; (with_reducible refine (C.out _).mono ?_); rintro e w1 ⟨A1, c1, rfl, o1, g1⟩; have G1 := Lib.hid (g_trans (World.grownBy_alloc w _ none) g1); clear o1 g1)
  go_ret
  exact ⟨rfl, G1.out⟩
end Go.Proofs.YtjdjkdgdbdenpaaDoor.C4
/- Small laws on rows of bytes, and lengths and decoding at instructions that are known. -/
namespace Go.Proofs.YtjdjkdgdbdenpaaDoor.C4
open Go Go.RowKit

theorem run_mk (n : Nat) (hn : n ≤ 100000) : ∀ w : World, (Instr.makeSlice 23 (.int .i64 0) (.int .i64 (n : Int))).run Tryd.prog w = .ok (.slice (some ⟨w.heap.size, 0, none⟩) 0 n) (w.alloc (.cells (zc n) 5)) := fun w => by
  rw [run_make_room 23 5 (.int .u8 0) 1 Tryd.underlying23 byte_info rfl .i64 .i64 n (by omega) (by omega) w]
  have e := toList_madeCells_one (Value.int .u8 0) n
  have e2 : zc n = madeCells #[Value.int .u8 0] n := by
    unfold zc bs
    rw [List.map_replicate]
    apply Array.ext'
    rw [e]
    rfl
  rw [e2]
theorem own_mk (w : World) (n B : Nat) (hB : B ≤ w.heap.size) (hn : n ≤ 100000) : (w.alloc (.cells (zc n) 5)).ownsRow B 5 1 (.slice (some ⟨w.heap.size, 0, none⟩) 0 n) 0 (bs []) :=
  ⟨rfl, .inr ⟨w.heap.size, n, zc n, rfl, hB, heap_alloc_new w _, Nat.zero_le _, by unfold maxLen; omega, by simp [zc, bs], by simp [bs]⟩⟩
/-- What an append onto a row of the call's own leaves. -/
theorem own_app {W w w' : World} {o : Option Obj} {v v' : Value} {n n' : Nat} {xs xs' : List Nat} (h : W.grownBy w none) (hown : w.ownsRow W.heap.size 5 1 v n (bs xs)) (g : ((o.elim w w.alloc)).grownBy w' v.ownBlock) (ho : w'.ownsRow W.heap.size 5 1 v' n' (bs xs')) :
    W.grownBy w' none ∧ w'.ownsRow W.heap.size 5 1 v' n' (bs xs') := by
  cases o with
  | none => exact ⟨g_app h hown g, ho⟩
  | some o => exact ⟨g_app (w := w.alloc o) (g_trans h (World.grownBy_alloc w o none)) (hown.alloc o) g, ho⟩
theorem own_of {w : World} {B n c : Nat} {A : Option Addr} {xs : List Nat} (h : w.ownsRow B 5 1 (.slice A n c) n (bs xs)) (hn : n = xs.length) : OwnB w B A c xs := by subst hn; exact h
theorem own_keep {w w' : World} {B n : Nat} {v : Value} {xs : List Value} (h : w.ownsRow B 5 1 v n xs) (g : w.grownBy w' none) : w'.ownsRow B 5 1 v n xs :=
  h.kept g (by cases v.ownBlock <;> simp)
theorem Len_is {f : Nat} {v : Int} (hf : valid f = true) (hv : isW v) (w : World) : Calls Tryd.prog 33 #[.agg #[.int .u8 (f : Int), .int .i32 v]] w fun e w' => e = .returned (.int .i64 ((enc f v).length : Nat)) ∧ w.grownBy w' none := by
  have C := Len_any f hv w
  rwa [show ln f v = (enc f v).length from if_pos hf] at C
end Go.Proofs.YtjdjkdgdbdenpaaDoor.C4
/- An instruction is decoded: by the program, and by the reference. -/
namespace Go.Proofs.YtjdjkdgdbdenpaaDoor.C4
open Go Go.RowKit

theorem gt_cons {xs : List Nat} {k m : Nat} {o : Int} (h : k < xs.length) : gt (m + 1) o k (xs.drop k) = if xs.getD k 0 / 16 = 2 ∨ xs.getD k 0 / 16 = 6 then gt m (nx o (xs.getD k 0)) (k + 1) (xs.drop (k + 1)) else ⟨xs.getD k 0 / 16, o + (xs.getD k 0 % 16 : Nat), k + 1, 0⟩ := by
  rw [List.drop_eq_getElem_cons h]
  simp only [List.getD_eq_getElem?_getD, List.getElem?_eq_getElem h, Option.getD_some]
  rfl
/-- What a decoder hands back. -/
def Gets (w : World) (g : Got) (e : Ending) (w' : World) : Prop := e = .returned (.tuple #[.agg #[.int .u8 (g.fn : Int), .int .i32 g.arg], .int .i64 (g.n : Int), .int .i64 g.e]) ∧ w.grownBy w' none
theorem i32_or {o : Int} (h : Reg o) (n : Nat) : bits .or .i32 o ((n : Int) % 16) = o + (n : Int) % 16 := by
  show IntKind.i32.wrap ((BitVec.ofInt 32 o ||| BitVec.ofInt 32 ((n : Int) % 16)).toNat : Int) = _
  unfold Reg at h
  obtain ⟨q, hq⟩ : ∃ q : Nat, o % 4294967296 = (q : Int) * 16 := ⟨(o % 4294967296 / 16).toNat, by omega⟩
  have e1 : (BitVec.ofInt 32 o).toNat = q * 2 ^ 4 := by rw [BitVec.toNat_ofInt]; omega
  have e2 : (BitVec.ofInt 32 ((n : Int) % 16)).toNat = n % 16 := by rw [BitVec.toNat_ofInt]; omega
  rw [BitVec.toNat_or, e1, e2, or_add (n % 16) q 4 (by omega), IntKind.wrap_i32]
  omega
theorem u8_low (n : Nat) : bits .and .u8 (n : Int) 15 = (n : Int) % 16 := by rw [u8_and15]; omega
theorem reg_low {o : Int} (h : Reg o) (n : Nat) : isW (o + (n : Int) % 16) := by unfold Reg at h; unfold isW; omega
/-- What the loop of a decoder keeps. -/
def At (xs : List Nat) (k : Nat) (o : Int) : Prop := Reg o ∧ gt (16 - k) o k (xs.drop k) = get xs
theorem at_start (xs : List Nat) : At xs 0 0 := ⟨reg_zero, rfl⟩
theorem at_pre {xs : List Nat} {k : Nat} {o o' : Int} (h : At xs k o) (hk : k < xs.length) (h16 : k < 16) (hc : xs.getD k 0 / 16 = 2 ∨ xs.getD k 0 / 16 = 6) (ho : o' = nx o (xs.getD k 0)) : At xs (k + 1) o' := by
  subst ho
  refine ⟨nx_reg _ _, ?_⟩
  have h2 := h.2
  rw [show 16 - k = (16 - (k + 1)) + 1 by omega, gt_cons hk, if_pos hc] at h2
  exact h2
theorem at_end {xs : List Nat} {k : Nat} {o : Int} (h : At xs k o) (hk : k < xs.length) (h16 : k < 16) (hc : ¬ (xs.getD k 0 / 16 = 2 ∨ xs.getD k 0 / 16 = 6)) : get xs = ⟨xs.getD k 0 / 16, o + (xs.getD k 0 % 16 : Nat), k + 1, 0⟩ := by
  have h2 := h.2
  rw [show 16 - k = (16 - (k + 1)) + 1 by omega, gt_cons hk, if_neg hc] at h2
  exact h2.symm
theorem at_short {xs : List Nat} {o : Int} (h : At xs xs.length o) (h16 : xs.length < 16) : get xs = ⟨0, 0, 0, 40⟩ := by
  have h2 := h.2
  rw [show 16 - xs.length = (15 - xs.length) + 1 by omega, List.drop_length, gt_nil] at h2
  exact h2.symm
theorem at_long {xs : List Nat} {o : Int} (h : At xs 16 o) : get xs = ⟨0, 0, 0, 3⟩ := by
  have h2 := h.2
  rw [show 16 - 16 = 0 by omega, gt_zero] at h2
  exact h2.symm
theorem nx_p {o : Int} {b : Nat} (h : (b : Int) / 16 = 2) : wrap32 ((o + (b : Int) % 16) * 16) = nx o b := by
  unfold nx
  rw [if_neg (by omega), Int.mul_comm]
  rfl
theorem nx_n {o : Int} {b : Nat} (h : (b : Int) / 16 = 6) : wrap32 ((-1 - (o + (b : Int) % 16)) * 16) = nx o b := by
  unfold nx
  rw [if_pos (by omega), Int.mul_comm]
  rfl
set_option maxRecDepth 100000 in
set_option maxHeartbeats 1000000 in
theorem Get_at {A : Option Addr} {c : Nat} {xs : List Nat} {w : World} (R : RS w A c xs) (m : Nat) (hm : ((xs.length : Int) ≤ 16 ∧ m = xs.length) ∨ (16 < (xs.length : Int) ∧ m = 16)) : Calls Tryd.prog 12 #[.slice A xs.length c] w (Gets w (get xs)) := by
  have HR := Lib.hid R
  have hc := R.le
  have hmx := R.mx
  unfold maxLen at hmx
  obtain ⟨L, hL⟩ : ∃ L, L = xs.length := ⟨_, rfl⟩
  have HL := Lib.hid hL
  rw [← hL] at hm hc ⊢
  have q2 : (m : Int) ≤ (L : Int) := by omega
  have q3 : (m : Int) ≤ 16 := by omega
  have q1 : (L : Int) ≤ (c : Int) := by omega
  have HM := Lib.hid hm
  clear hL R
  unfold Gets
  have e16 : max (16 : Int) 0 = 16 := by decide
  obtain ⟨h16, rfl⟩ | ⟨h16, rfl⟩ := hm
  · go_enter Tryd.func12, Tryd.ntmps12
    go_wp2
    go_loop [5, 15] (fun o i => ∃ (k : Nat) (o' : Int), k ≤ m ∧ i = .int .i64 k ∧ o = .int .i32 o' ∧ Hid (At xs k o')) (fun _ i => m - (intOf i).toNat)
    case atStart => exact ⟨0, 0, Nat.zero_le _, rfl, rfl, at_start xs⟩
    case round =>
      obtain ⟨k, o, hk, rfl, rfl, H⟩ := hrel
      by_cases hlt : k < m
      · obtain ⟨ad, rfl, hcell⟩ := (HR.out.kept0 (World.grownBy_alloc w (.cells #[.int .u8 0, .int .i32 0] 35) none)).some_ (by rw [← HL.out]; omega)
        have c1 := hcell k (by rw [← HL.out]; omega)
        unfold bc at c1
        have HP := Lib.hid (fun (o' : Int) hc ho => at_pre (o' := o') H.out (by rw [← HL.out]; omega) (by omega) hc ho)
        have HE := Lib.hid (at_end H.out (by rw [← HL.out]; omega) (by omega))
        have b0 : xs.getD k 0 < 256 := HR.out.by_.get k
        generalize xs.getD k 0 = b at *
        have E1 := u8_low b
        have E2 := i32_or H.out.1 b
        have E3 := i32_not _ (reg_low H.out.1 b)
        have E4 := Lib.hid E3
        have P1 := Lib.hid (fun h => nx_p (o := o) (b := b) h)
        have P2 := Lib.hid (fun h => nx_n (o := o) (b := b) h)
        clear H hcell
        by_cases f2 : (b : Int) / 16 = 2
        · go_wp2
          go_round
          case rel => exact ⟨k + 1, _, by omega, by go_num, rfl, HP.out _ (.inl (by omega)) (P1.out f2)⟩
          case measure => simp [intOf]; omega
        · by_cases f6 : (b : Int) / 16 = 6
          · go_wp2
            go_round
            case rel => exact ⟨k + 1, _, by omega, by go_num, rfl, HP.out _ (.inr (by omega)) (by have h := P2.out f6; rw [← E4.out] at h; exact h)⟩
            case measure => simp [intOf]; omega
          · have HG := Lib.hid (HE.out (by omega))
            go_wp2
            rw [HG.out]
            refine bodyPost_ret (v := .tuple #[.agg #[.int .u8 ((b / 16 : Nat) : Int), .int .i32 (o + ((b % 16 : Nat) : Int))], .int .i64 ((k + 1 : Nat) : Int), .int .i64 0]) ?_ rfl ⟨rfl, ?_⟩
            · simp [results, Tryd.results12, go_sem]
            · exact World.grownBy_alloc w _ none
      · obtain rfl : k = m := by omega
        have HE := Lib.hid H.out
        by_cases hs : k < 16
        · have HS := Lib.hid (at_short (xs := xs) (o := o) (by rw [← HL.out]; exact HE.out) (by rw [← HL.out]; omega))
          go_wp2
          rw [HS.out]
          refine bodyPost_ret (v := .tuple #[.agg #[.int .u8 0, .int .i32 0], .int .i64 0, .int .i64 40]) ?_ rfl ⟨rfl, ?_⟩
          · simp [results, Tryd.results12, go_sem]
          · exact World.grownBy_alloc w _ none
        · obtain rfl : k = 16 := by omega
          have HS := Lib.hid (at_long HE.out)
          go_wp2
          rw [HS.out]
          refine bodyPost_ret (v := .tuple #[.agg #[.int .u8 0, .int .i32 0], .int .i64 0, .int .i64 3]) ?_ rfl ⟨rfl, ?_⟩
          · simp [results, Tryd.results12, go_sem]
          · exact World.grownBy_alloc w _ none
  · go_enter Tryd.func12, Tryd.ntmps12
    go_wp2
    go_loop [5, 15] (fun o i => ∃ (k : Nat) (o' : Int), k ≤ 16 ∧ i = .int .i64 k ∧ o = .int .i32 o' ∧ Hid (At xs k o')) (fun _ i => 16 - (intOf i).toNat)
    case atStart => exact ⟨0, 0, Nat.zero_le _, rfl, rfl, at_start xs⟩
    case round =>
      obtain ⟨k, o, hk, rfl, rfl, H⟩ := hrel
      by_cases hlt : k < 16
      · obtain ⟨ad, rfl, hcell⟩ := (HR.out.kept0 (World.grownBy_alloc w (.cells #[.int .u8 0, .int .i32 0] 35) none)).some_ (by rw [← HL.out]; omega)
        have c1 := hcell k (by rw [← HL.out]; omega)
        unfold bc at c1
        have HP := Lib.hid (fun (o' : Int) hc ho => at_pre (o' := o') H.out (by rw [← HL.out]; omega) (by omega) hc ho)
        have HE := Lib.hid (at_end H.out (by rw [← HL.out]; omega) (by omega))
        have b0 : xs.getD k 0 < 256 := HR.out.by_.get k
        generalize xs.getD k 0 = b at *
        have E1 := u8_low b
        have E2 := i32_or H.out.1 b
        have E3 := i32_not _ (reg_low H.out.1 b)
        have E4 := Lib.hid E3
        have P1 := Lib.hid (fun h => nx_p (o := o) (b := b) h)
        have P2 := Lib.hid (fun h => nx_n (o := o) (b := b) h)
        clear H hcell
        by_cases f2 : (b : Int) / 16 = 2
        · go_wp2
          go_round
          case rel => exact ⟨k + 1, _, by omega, by go_num, rfl, HP.out _ (.inl (by omega)) (P1.out f2)⟩
          case measure => simp [intOf]; omega
        · by_cases f6 : (b : Int) / 16 = 6
          · go_wp2
            go_round
            case rel => exact ⟨k + 1, _, by omega, by go_num, rfl, HP.out _ (.inr (by omega)) (by have h := P2.out f6; rw [← E4.out] at h; exact h)⟩
            case measure => simp [intOf]; omega
          · have HG := Lib.hid (HE.out (by omega))
            go_wp2
            rw [HG.out]
            refine bodyPost_ret (v := .tuple #[.agg #[.int .u8 ((b / 16 : Nat) : Int), .int .i32 (o + ((b % 16 : Nat) : Int))], .int .i64 ((k + 1 : Nat) : Int), .int .i64 0]) ?_ rfl ⟨rfl, ?_⟩
            · simp [results, Tryd.results12, go_sem]
            · exact World.grownBy_alloc w _ none
      · obtain rfl : k = 16 := by omega
        have HS := Lib.hid (at_long H.out)
        go_wp2
        rw [HS.out]
        refine bodyPost_ret (v := .tuple #[.agg #[.int .u8 0, .int .i32 0], .int .i64 0, .int .i64 3]) ?_ rfl ⟨rfl, ?_⟩
        · simp [results, Tryd.results12, go_sem]
        · exact World.grownBy_alloc w _ none
theorem Get_any {A : Option Addr} {c : Nat} {xs : List Nat} {w : World} (R : RS w A c xs) : Calls Tryd.prog 12 #[.slice A xs.length c] w (Gets w (get xs)) := by
  by_cases h : (xs.length : Int) ≤ 16
  · exact Get_at R xs.length (.inl ⟨h, rfl⟩)
  · exact Get_at R 16 (.inr ⟨by omega, rfl⟩)
end Go.Proofs.YtjdjkdgdbdenpaaDoor.C4
