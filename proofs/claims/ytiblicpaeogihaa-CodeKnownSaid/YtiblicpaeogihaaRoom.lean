/- Encodings are made into a room of eight bytes: the length of an encoding. -/
import Derived.Test.YtiblicpaeogihaaPut
namespace Go.Proofs.Ytiblicpaeogihaa
open Go Go.RowKit

/-- A room of eight bytes. -/
def Room (w : World) (g : Nat) : Prop := ∃ cur : Array Value, w.heap[g]? = some (.cells cur 62 (0, 0)) ∧ cur.size = 8
theorem run_room {w : World} (ty : TypeId) {g n k : Nat} {ad : Addr} {u : Value} (R : Room w g) (hn : n + 1 ≤ 8) (hc : w.cell? ad = some u) (h1 : u.oneCell' = true) :
    ∃ w', (Builtin.append_ #[24, 24] ty #[.slice (some ⟨g, 0, none⟩) n 8, .slice (some ad) 1 k]).run Try.prog w = .ok (.slice (some ⟨g, 0, none⟩) (n + 1) 8) w' ∧ Room w' g ∧ w.grownBy w' (some g) := by
  obtain ⟨cur, hg, hs⟩ := R
  obtain ⟨i0, hi0, hz0, hz1, hz2⟩ := info_parts byte_info
  have hcell : ∀ j v, [u][j]? = some v → w.cell? (ad.add j) = some v := by
    intro j v hj
    match j with
    | 0 => simp at hj; subst hj; simpa [Addr.add] using hc
    | j + 1 => simp at hj
  have hf := run_firstCells_some (P := Try.prog) w i0.size 1 ad 1 k [u] (by rw [hz1]; rfl) hcell
  have hst := run_storeCells_at Try.prog g (n * i0.size) 62 [u] 0 cur w hg (by rw [hz1, hs]; simp; omega) (by intro v hv; simp at hv; subst hv; exact h1)
  simp only [Nat.add_zero] at hst
  refine ⟨w.setRow g (List.take (n * i0.size) cur.toList ++ [u] ++ List.drop (n * i0.size + [u].length) cur.toList).toArray, ?_, ?_, g_row _ _ _⟩
  · simp [Builtin.append_, run_underlying Try.underlying24, sizeOf, typeInfo, hi0, Builtin.lenOf, hn, hf, Addr.add_lit, hst]
  · refine ⟨_, setRow_heap w g cur _ 62 _ hg, ?_⟩
    simp [hz1]; omega
theorem app_room {w : World} {ops : Array Oper} {rest : List Oper} {o : Oper} {a : Act} {Q : Exit → Act → World → Prop} (hgd : o.guard = none) (s x : Operand)
    (ho : o.op = .call { callee := .builtin .append, args := #[s, x], argTypes := #[24, 24] }) (g n k : Nat) (ad : Addr) (u : Value) (hs : a.eval s = .slice (some ⟨g, 0, none⟩) n 8) (hx : a.eval x = .slice (some ad) 1 k)
    (R : Room w g) (hn : n + 1 ≤ 8) (hc : w.cell? ad = some u) (h1 : u.oneCell' = true) (h : ∀ w', Room w' g → w.grownBy w' (some g) → wpList Try.prog ops Q rest (a.put o.dst (.slice (some ⟨g, 0, none⟩) (n + 1) 8)) w') : wpList Try.prog ops Q (o :: rest) a w := by
  obtain ⟨w', hr, k1, k2⟩ := run_room (k := k) o.type R hn hc h1
  refine wpList_plain hgd fun K hK => ?_
  unfold Oper.wp execOp
  simp only [ho, resolve, invoke, builtin, Sem.run_bind, Sem.run_pure, Result.andThen_ok, List.map_toArray, List.map_cons, List.map_nil, hs, hx, hr]
  exact hK _ _ (h w' k1 k2)
theorem Room.alloc {w : World} {g : Nat} (R : Room w g) (o : Obj) : Room (w.alloc o) g := by
  obtain ⟨cur, hg, hs⟩ := R
  exact ⟨cur, ((World.grownBy_alloc w o none).block g (heap_lt hg) (by simp)).trans hg, hs⟩
def InRoom (w : World) (g l : Nat) (e : Ending) (w' : World) : Prop := e = .returned (.slice (some ⟨g, 0, none⟩) l 8) ∧ w.grownBy w' (some g) ∧ Room w' g
def EncR (f : Nat) (v : Int) : Prop := ∀ (w : World) (g n : Nat), Room w g → n + (enc f v).length ≤ 8 →
  Calls Try.prog 29 #[.slice (some ⟨g, 0, none⟩) n 8, .int .u8 (f : Int), .int .i32 v] w (InRoom w g (n + (enc f v).length))
set_option maxRecDepth 100000 in
theorem room_one (f : Nat) (hf : f < 16) (v : Int) (h0 : 0 ≤ v) (h1 : v < 16) : EncR f v := by
  intro w g n R hn
  have HR := Lib.hid R
  rw [enc_lo (fn := f) h0 h1] at hn ⊢
  have HN := Lib.hid hn
  have CB := instrByte_any f hf v
  generalize hy : 16 * f + (v % 16).toNat = y at *
  have CB := Lib.hid CB
  have q0 : ¬ v < 0 := by omega
  have q1 : ¬ 15 < v := by omega
  clear R hn h0 h1 hf hy
  unfold InRoom
  go_enter Try.func29, Try.ntmps29
  go_wp2_with (first
    | (go_at_call 32; (with_reducible refine (CB.out _).mono ?_); rintro e w' ⟨rfl, rfl⟩)
    | (at_builtin; refine app_room rfl (.tmp 22) (.tmp 26) rfl g n 1 ⟨w.heap.size, 0, none⟩ _ rfl rfl (HR.out.alloc _) HN.out (cell_new _ _ _) rfl ?_; intro w1 o1 g1; have O1 := Lib.hid (And.intro o1 g1); clear o1 g1))
  go_ret
  exact ⟨rfl, g_trans (g_wide (World.grownBy_alloc w _ none)) O1.out.2, O1.out.1⟩
set_option maxRecDepth 100000 in
theorem room_more (f : Nat) (hf : f < 16) (v : Int) (h1 : 16 ≤ v) (ih : EncR 2 (v / 16)) : EncR f v := by
  intro w g n R hn
  rw [enc_hi (fn := f) h1, List.length_append] at hn ⊢
  have HN := Lib.hid hn
  have CB := instrByte_any f hf v
  have CE : Calls Try.prog 29 #[.slice (some ⟨g, 0, none⟩) n 8, .int .u8 2, .int .i32 (v / 16)] w _ := ih w g n R (by omega)
  unfold InRoom at CE
  generalize hy : 16 * f + (v % 16).toNat = y at *
  have CB := Lib.hid CB
  have q0 : ¬ v < 0 := by omega
  have q1 : 15 < v := by omega
  clear R hn h1 hf hy ih
  generalize enc 2 (v / 16) = zs at *
  have CE := Lib.hid CE
  unfold InRoom
  go_enter Try.func29, Try.ntmps29
  go_wp2_with (first
    | (go_at_call 29; (with_reducible refine CE.out.mono ?_); rintro e w2 ⟨rfl, g2, o2⟩; have H2 := Lib.hid (And.intro g2 o2); clear g2 o2)
    | (go_at_call 32; (with_reducible refine (CB.out _).mono ?_); rintro e w' ⟨rfl, rfl⟩)
    | (at_builtin; refine app_room rfl (.tmp 22) (.tmp 26) rfl g (n + zs.length) 1 ⟨w2.heap.size, 0, none⟩ _ rfl rfl (H2.out.2.alloc _) HN.out (cell_new _ _ _) rfl ?_; intro w1 o1 g1; have O1 := Lib.hid (And.intro o1 g1); clear o1 g1))
  go_ret
  exact ⟨rfl, g_trans (g_trans H2.out.1 (g_wide (World.grownBy_alloc w2 _ none))) O1.out.2, O1.out.1⟩
set_option maxRecDepth 100000 in
theorem room_minus (f : Nat) (hf : f < 16) (v : Int) (hv : isW v) (h1 : v < 0) (ih : EncR 6 ((-1 - v) / 16)) : EncR f v := by
  intro w g n R hn
  rw [enc_neg (fn := f) h1, List.length_append] at hn ⊢
  have HN := Lib.hid hn
  have CB := instrByte_any f hf v
  have CE : Calls Try.prog 29 #[.slice (some ⟨g, 0, none⟩) n 8, .int .u8 6, .int .i32 ((-1 - v) / 16)] w _ := ih w g n R (by omega)
  unfold InRoom at CE
  generalize hy : 16 * f + (v % 16).toNat = y at *
  have CB := Lib.hid CB
  have q0 : v < 0 := by omega
  have EX := i32_not v hv
  clear R hn h1 hf hy ih hv
  generalize enc 6 ((-1 - v) / 16) = zs at *
  have CE := Lib.hid CE
  unfold InRoom
  go_enter Try.func29, Try.ntmps29
  go_wp2_with (first
    | (go_at_call 29; (with_reducible refine CE.out.mono ?_); rintro e w2 ⟨rfl, g2, o2⟩; have H2 := Lib.hid (And.intro g2 o2); clear g2 o2)
    | (go_at_call 32; (with_reducible refine (CB.out _).mono ?_); rintro e w' ⟨rfl, rfl⟩)
    | (at_builtin; refine app_room rfl (.tmp 22) (.tmp 26) rfl g (n + zs.length) 1 ⟨w2.heap.size, 0, none⟩ _ rfl rfl (H2.out.2.alloc _) HN.out (cell_new _ _ _) rfl ?_; intro w1 o1 g1; have O1 := Lib.hid (And.intro o1 g1); clear o1 g1))
  go_ret
  exact ⟨rfl, g_trans (g_trans H2.out.1 (g_wide (World.grownBy_alloc w2 _ none))) O1.out.2, O1.out.1⟩
theorem room_nat (n : Nat) : ∀ (f : Nat), f < 16 → EncR f (n : Int) := by
  induction n using Nat.strongRecOn with
  | ind n ih =>
    intro f hf
    by_cases h : n < 16
    · exact room_one f hf _ (by omega) (by omega)
    · refine room_more f hf _ (by omega) ?_
      have := ih (n / 16) (by omega) 2 (by omega)
      rwa [show (((n / 16 : Nat) : Int)) = (n : Int) / 16 by omega] at this
theorem room_any (f : Nat) (hf : f < 16) (v : Int) (hv : isW v) : EncR f v := by
  by_cases h : v < 0
  · refine room_minus f hf v hv h ?_
    have := room_nat ((-1 - v) / 16).toNat 6 (by omega)
    rwa [show ((((-1 - v) / 16).toNat : Nat) : Int) = (-1 - v) / 16 by omega] at this
  · have := room_nat v.toNat f hf
    rwa [show ((v.toNat : Nat) : Int) = v by omega] at this
end Go.Proofs.Ytiblicpaeogihaa
