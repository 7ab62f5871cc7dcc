/- The law on decoded bytes, with prefixes in front, returns true for every slice of bytes. -/
import Derived.Test.YtiblicpaeogihaaLawsD
namespace Go.Proofs.Ytiblicpaeogihaa
open Go Go.RowKit

/-- One byte, known as an integer, appended to a row of the call's own. -/
theorem app_byte {w : World} {ops : Array Oper} {rest : List Oper} {o : Oper} {a : Act} {Q : Exit → Act → World → Prop} (hgd : o.guard = none) (s x : Operand)
    (ho : o.op = .call { callee := .builtin .append, args := #[s, x], argTypes := #[24, 24] }) (base n c k : Nat) (A : Option Addr) (ad : Addr) (xs : List Nat) (X : Int) (hs : a.eval s = .slice A n c) (hx : a.eval x = .slice (some ad) 1 k)
    (hown : w.ownsRow base 5 1 (.slice A n c) n (bs xs)) (hc : w.cell? ad = some (.int .u8 X)) (h0 : 0 ≤ X ∧ X < 256) (hb : BY xs) (hl : n ≤ 1000000) (hbase : base ≤ w.heap.size)
    (h : ∀ g c2 w' ys, w'.ownsRow base 5 1 (.slice (some ⟨g, 0, none⟩) (n + 1) c2) (n + 1) (bs ys) → ys.length = xs.length + 1 → BY ys → w.grownBy w' (Value.slice A n c).ownBlock → wpList Try.prog ops Q rest (a.put o.dst (.slice (some ⟨g, 0, none⟩) (n + 1) c2)) w') : wpList Try.prog ops Q (o :: rest) a w := by
  obtain ⟨y, rfl⟩ := Int.eq_ofNat_of_zero_le h0.1
  exact app_one hgd s x ho base n c k A ad xs y hs hx hown hc hl hbase fun g c2 w' h1 h2 _ => h g c2 w' (xs ++ [y]) h1 (by simp) (by
    intro z hz
    rcases List.mem_append.1 hz with hz | hz
    · exact hb z hz
    · simp at hz; omega) h2
/-- One of two slices. -/
theorem index_slices (A B : Option Addr) (l m c d : Nat) : (∀ W : World, (Instr.index 37 (.agg #[.slice A l c, .slice B m d]) (.int .i64 0)).run Try.prog W = .ok (.slice A l c) W) ∧ (∀ W : World, (Instr.index 37 (.agg #[.slice A l c, .slice B m d]) (.int .i64 1)).run Try.prog W = .ok (.slice B m d) W) :=
  ⟨fun _ => by kernel_rfl, fun _ => by kernel_rfl⟩
theorem index_sel {A B : Option Addr} {l m c d k : Nat} {xs ys : List Nat} {w : World} (R : RS w A c xs) (S : RS w B d ys) (hl : xs.length = l) (hm : ys.length = m) (h1 : l ≤ 100) (h2 : m ≤ 100) (hk : k < 2) :
    ∃ C e zs n, (∀ W : World, (Instr.index 37 (.agg #[.slice A l c, .slice B m d]) (.int .i64 (k : Int))).run Try.prog W = .ok (.slice C n e) W) ∧ RS w C e zs ∧ zs.length = n ∧ n ≤ 100 := by
  obtain rfl | rfl : k = 0 ∨ k = 1 := by omega
  · exact ⟨A, c, xs, l, (index_slices A B l m c d).1, R, hl, h1⟩
  · exact ⟨B, d, ys, m, (index_slices A B l m c d).2, S, hm, h2⟩
theorem rGet_is {A : Option Addr} {c f n m : Nat} {v e' : Int} {xs : List Nat} {w : World} (R : RS w A c xs) (hm : m = xs.length) (h : get xs = ⟨f, v, n, e'⟩) : Calls Try.prog 19 #[.slice A m c] w fun e w' =>
    e = .returned (.tuple #[.agg #[.int .u8 (f : Int), .int .i32 v], .int .i64 (n : Int), .int .i64 e']) ∧ w.grownBy w' none := by
  subst hm
  have := rGet_any R
  rw [h] at this
  exact this
theorem gets_by {xs ys : List Nat} (h : BY xs) (k : BY ys) : BY (xs ++ ys) := by
  intro x hx
  rcases List.mem_append.1 hx with hx | hx
  · exact h x hx
  · exact k x hx
set_option maxRecDepth 100000 in
set_option maxHeartbeats 4000000 in
theorem gets_law {A : Option Addr} {L m c n : Nat} {D : Int} {ys : List Nat} {w : World} (R : RS w A c ys) (hm : ys.length = m) (hL : Cut L m 40) (hc : L ≤ c) (hn : (n : Int) < 256) (_hD : 0 ≤ D) : Calls Try.prog 4 #[.slice A L c, .int .u8 (n : Int), .int .u64 D] w fun e w' => e = .returned (.bool true) ∧ w.grownBy w' none := by
  have HR := Lib.hid R
  have HM := Lib.hid hm
  have q1 : (L : Int) ≤ (c : Int) := by omega
  have e40 : max (40 : Int) 0 = 40 := by decide
  have HB := Lib.hid (show m ≤ 40 by unfold Cut at hL; omega)
  clear R hm
  unfold Cut at hL
  obtain ⟨h40, h41⟩ | ⟨h40, h41⟩ := hL
  · subst h41
    go_enter Try.func4, Try.ntmps4
    go_wp2
    go_loopw [7, 8] (fun b i wr => ∃ k : Nat, k ≤ 20 ∧ i = .int .i64 k ∧ ∃ A1 c1 fs, b = .slice A1 k c1 ∧ Hid ((w.grownBy wr none ∧ wr.ownsRow w.heap.size 5 1 (.slice A1 k c1) k (bs fs)) ∧ fs.length = k ∧ BY fs)) (fun _ i _ => 20 - (intOf i).toNat)
    case atStart => exact ⟨0, by omega, rfl, _, _, [], rfl, ⟨World.grownBy.refl _ _, own_nil' _ _⟩, rfl, by intro x hx; cases hx⟩
    case round =>
      obtain ⟨k, hk, rfl, A1, c1, fs, rfl, H⟩ := hrel
      by_cases hlt : k < n % 20
      · have h1 : (k : Int) < (n : Int) % 20 := by omega
        go_wp2_with (at_builtin; refine app_byte rfl (.tmp 37) (.tmp 46) rfl w.heap.size k c1 1 A1 ⟨wr.heap.size, 0, none⟩ fs _ rfl rfl (H.out.1.2.alloc _) (cell_new _ _ _) ⟨by omega, by omega⟩ H.out.2.2 (by omega) (by have := H.out.1.1.size; simp; omega) ?_; intro g3 c3 w3 zs o3 l3 b3 g3'; have H3 := Lib.hid (And.intro (own_app (o := some _) H.out.1.1 H.out.1.2 g3' o3) (And.intro (l3.trans (congrArg (· + 1) H.out.2.1)) b3)); clear o3 l3 b3 g3')
        all_goals
          go_roundw
          case rel => exact ⟨k + 1, by omega, by go_num, _, _, _, rfl, H3.out⟩
          case measure => simp [intOf]; omega
      · have h1 : ¬ (k : Int) < (n : Int) % 20 := by omega
        go_wp2_with (at_builtin; refine app_bytes rfl (.tmp 49) (.tmp 50) rfl w.heap.size k c1 m c (k + m) A1 A fs ys rfl rfl H.out.1.2 HM.out (HR.out.kept0 H.out.1.1).rd rfl (by have := HB.out; omega) H.out.1.1.size ?_; intro A4 c4 w4 o4 g4; have H4 := Lib.hid (own_app (o := none) H.out.1.1 H.out.1.2 g4 o4); clear o4 g4)
        have hl2 : (fs ++ ys).length = k + m := by rw [List.length_append, H.out.2.1, HM.out]
        have HS := Lib.hid (And.intro (OwnB.rs (own_of H4.out.2 hl2.symm) (gets_by H.out.2.2 HR.out.by_)).1 hl2)
        have HQ := Lib.hid (show k ≤ 20 by omega)
        generalize fs ++ ys = gs at *
        clear H hl2 h1 hlt hk
        go_loopw [53] (fun i wr => ∃ k2 : Nat, k2 ≤ 2 ∧ i = .int .i64 k2 ∧ Hid (w.grownBy wr none ∧ RS wr A4 c4 gs)) (fun i _ => 2 - (intOf i).toNat)
        case atStart => exact ⟨0, by omega, rfl, H4.out.1, HS.out.1⟩
        case round =>
          obtain ⟨k2, hk2, rfl, H5⟩ := hrel
          by_cases hlt : k2 < 2
          · obtain ⟨C, e, zs, l, hi, RZ, hzl, hl100⟩ := index_sel (HR.out.kept0 H5.out.1) H5.out.2 HM.out HS.out.2 (by have := HB.out; omega) (by have := HB.out; have := HQ.out; omega) hlt
            obtain ⟨f, v, q, E, hG⟩ : ∃ f v q E, get zs = ⟨f, v, q, E⟩ := ⟨_, _, _, _, rfl⟩
            have C1 := Lib.hid (fun (w1 : World) (A1 : Option Addr) (c1 : Nat) (R1 : RS w1 A1 c1 zs) => Get_is (m := l) R1 hzl.symm hG)
            have C2 := Lib.hid (fun (w1 : World) (A1 : Option Addr) (c1 : Nat) (R1 : RS w1 A1 c1 zs) => rGet_is (m := l) R1 hzl.symm hG)
            have HZ := Lib.hid (And.intro RZ (And.intro hzl hl100))
            have hN : ∀ w : World, (binOp .neq 23 (.agg #[.int .u8 (f : Int), .int .i32 v]) (.agg #[.int .u8 (f : Int), .int .i32 v])).run Try.prog w = .ok (.bool false) w := fun w => by rw [neq_iv]; simp
            have hGd : ∀ w : World, (eqGuard .neq 23 (.tmp 71) (.tmp 72) (.agg #[.int .u8 (f : Int), .int .i32 v]) (.agg #[.int .u8 (f : Int), .int .i32 v])).run Try.prog w = .ok () w := fun w => run_eqGuard_agg w .neq _ _ _ _ _ guard_iv
            clear RZ hzl hl100 hG
            go_wp2_with (first
              | (at_builtin; refine app_bytes rfl (.tmp 56) (.tmp 57) rfl wr.heap.size 0 0 l e l (some ⟨wr.heap.size, 0, none⟩) C [] zs rfl rfl (own_lit wr) HZ.out.2.1 (HZ.out.1.kept0 (World.grownBy_alloc wr _ none)).rd (by omega) (by have := HZ.out.2.2; omega) (by simp) ?_; intro A6 c6 w6 o6 g6; have H6 := Lib.hid (own_app (o := none) (World.grownBy_alloc wr _ none) (own_lit wr) g6 o6); have K6 := Lib.hid (OwnB.rs (own_of H6.out.2 HZ.out.2.1.symm) HZ.out.1.by_).1; clear o6 g6)
              | (go_at_call 18; (with_reducible refine (C1.out _ _ _ K6.out).mono ?_); rintro e7 w7 ⟨rfl, g7⟩; have H7 := Lib.hid (And.intro (g_trans H6.out.1 g7) (K6.out.kept0 g7)); clear g7)
              | (go_at_call 19; (with_reducible refine (C2.out _ _ _ (HZ.out.1.kept0 (g_trans H7.out.1 (World.grownBy_alloc w7 _ none)))).mono ?_); rintro e8 w8 ⟨rfl, g8⟩; obtain ⟨j0, j1⟩ := box_cells g8; have z8 : w7.heap.size < w8.heap.size := lt_of_cell j0; have H8 := Lib.hid (And.intro (g_trans (g_trans H7.out.1 (World.grownBy_alloc w7 _ none)) (g_trans g8 (World.grownBy_alloc w8 (.cells #[.int .u8 (f : Int), .int .i32 v] 23) none))) (H7.out.2.kept0 (g_trans (World.grownBy_alloc w7 _ none) (g_trans g8 (World.grownBy_alloc w8 (.cells #[.int .u8 (f : Int), .int .i32 v] 23) none))))); clear g8; have s1 := str_any H8.out.2 l HZ.out.2.1.symm; have s2 := str_any (HZ.out.1.kept0 H8.out.1) l HZ.out.2.1.symm))
            go_roundw
            case rel => exact ⟨k2 + 1, by omega, by go_num, g_trans H5.out.1 H8.out.1, H5.out.2.kept0 H8.out.1⟩
            case measure => simp [intOf]; omega
          · obtain rfl : k2 = 2 := by omega
            go_wp2_with (go_at_call 17; (with_reducible refine (works_any _).mono ?_); rintro e9 w9 ⟨rfl, g9⟩; have G9 := Lib.hid (g_trans H5.out.1 g9); clear g9)
            go_ret
            exact ⟨rfl, G9.out⟩
  · have H41 := Lib.hid h41
    clear h41
    go_enter Try.func4, Try.ntmps4
    go_wp2
    rw [show Value.slice A 40 c = Value.slice A m c by rw [H41.out]]
    go_loopw [7, 8] (fun b i wr => ∃ k : Nat, k ≤ 20 ∧ i = .int .i64 k ∧ ∃ A1 c1 fs, b = .slice A1 k c1 ∧ Hid ((w.grownBy wr none ∧ wr.ownsRow w.heap.size 5 1 (.slice A1 k c1) k (bs fs)) ∧ fs.length = k ∧ BY fs)) (fun _ i _ => 20 - (intOf i).toNat)
    case atStart => exact ⟨0, by omega, rfl, _, _, [], rfl, ⟨World.grownBy.refl _ _, own_nil' _ _⟩, rfl, by intro x hx; cases hx⟩
    case round =>
      obtain ⟨k, hk, rfl, A1, c1, fs, rfl, H⟩ := hrel
      by_cases hlt : k < n % 20
      · have h1 : (k : Int) < (n : Int) % 20 := by omega
        go_wp2_with (at_builtin; refine app_byte rfl (.tmp 37) (.tmp 46) rfl w.heap.size k c1 1 A1 ⟨wr.heap.size, 0, none⟩ fs _ rfl rfl (H.out.1.2.alloc _) (cell_new _ _ _) ⟨by omega, by omega⟩ H.out.2.2 (by omega) (by have := H.out.1.1.size; simp; omega) ?_; intro g3 c3 w3 zs o3 l3 b3 g3'; have H3 := Lib.hid (And.intro (own_app (o := some _) H.out.1.1 H.out.1.2 g3' o3) (And.intro (l3.trans (congrArg (· + 1) H.out.2.1)) b3)); clear o3 l3 b3 g3')
        all_goals
          go_roundw
          case rel => exact ⟨k + 1, by omega, by go_num, _, _, _, rfl, H3.out⟩
          case measure => simp [intOf]; omega
      · have h1 : ¬ (k : Int) < (n : Int) % 20 := by omega
        go_wp2_with (at_builtin; refine app_bytes rfl (.tmp 49) (.tmp 50) rfl w.heap.size k c1 m c (k + m) A1 A fs ys rfl rfl H.out.1.2 HM.out (HR.out.kept0 H.out.1.1).rd rfl (by have := HB.out; omega) H.out.1.1.size ?_; intro A4 c4 w4 o4 g4; have H4 := Lib.hid (own_app (o := none) H.out.1.1 H.out.1.2 g4 o4); clear o4 g4)
        have hl2 : (fs ++ ys).length = k + m := by rw [List.length_append, H.out.2.1, HM.out]
        have HS := Lib.hid (And.intro (OwnB.rs (own_of H4.out.2 hl2.symm) (gets_by H.out.2.2 HR.out.by_)).1 hl2)
        have HQ := Lib.hid (show k ≤ 20 by omega)
        generalize fs ++ ys = gs at *
        clear H hl2 h1 hlt hk
        go_loopw [53] (fun i wr => ∃ k2 : Nat, k2 ≤ 2 ∧ i = .int .i64 k2 ∧ Hid (w.grownBy wr none ∧ RS wr A4 c4 gs)) (fun i _ => 2 - (intOf i).toNat)
        case atStart => exact ⟨0, by omega, rfl, H4.out.1, HS.out.1⟩
        case round =>
          obtain ⟨k2, hk2, rfl, H5⟩ := hrel
          by_cases hlt : k2 < 2
          · obtain ⟨C, e, zs, l, hi, RZ, hzl, hl100⟩ := index_sel (HR.out.kept0 H5.out.1) H5.out.2 HM.out HS.out.2 (by have := HB.out; omega) (by have := HB.out; have := HQ.out; omega) hlt
            obtain ⟨f, v, q, E, hG⟩ : ∃ f v q E, get zs = ⟨f, v, q, E⟩ := ⟨_, _, _, _, rfl⟩
            have C1 := Lib.hid (fun (w1 : World) (A1 : Option Addr) (c1 : Nat) (R1 : RS w1 A1 c1 zs) => Get_is (m := l) R1 hzl.symm hG)
            have C2 := Lib.hid (fun (w1 : World) (A1 : Option Addr) (c1 : Nat) (R1 : RS w1 A1 c1 zs) => rGet_is (m := l) R1 hzl.symm hG)
            have HZ := Lib.hid (And.intro RZ (And.intro hzl hl100))
            have hN : ∀ w : World, (binOp .neq 23 (.agg #[.int .u8 (f : Int), .int .i32 v]) (.agg #[.int .u8 (f : Int), .int .i32 v])).run Try.prog w = .ok (.bool false) w := fun w => by rw [neq_iv]; simp
            have hGd : ∀ w : World, (eqGuard .neq 23 (.tmp 71) (.tmp 72) (.agg #[.int .u8 (f : Int), .int .i32 v]) (.agg #[.int .u8 (f : Int), .int .i32 v])).run Try.prog w = .ok () w := fun w => run_eqGuard_agg w .neq _ _ _ _ _ guard_iv
            clear RZ hzl hl100 hG
            go_wp2_with (first
              | (at_builtin; refine app_bytes rfl (.tmp 56) (.tmp 57) rfl wr.heap.size 0 0 l e l (some ⟨wr.heap.size, 0, none⟩) C [] zs rfl rfl (own_lit wr) HZ.out.2.1 (HZ.out.1.kept0 (World.grownBy_alloc wr _ none)).rd (by omega) (by have := HZ.out.2.2; omega) (by simp) ?_; intro A6 c6 w6 o6 g6; have H6 := Lib.hid (own_app (o := none) (World.grownBy_alloc wr _ none) (own_lit wr) g6 o6); have K6 := Lib.hid (OwnB.rs (own_of H6.out.2 HZ.out.2.1.symm) HZ.out.1.by_).1; clear o6 g6)
              | (go_at_call 18; (with_reducible refine (C1.out _ _ _ K6.out).mono ?_); rintro e7 w7 ⟨rfl, g7⟩; have H7 := Lib.hid (And.intro (g_trans H6.out.1 g7) (K6.out.kept0 g7)); clear g7)
              | (go_at_call 19; (with_reducible refine (C2.out _ _ _ (HZ.out.1.kept0 (g_trans H7.out.1 (World.grownBy_alloc w7 _ none)))).mono ?_); rintro e8 w8 ⟨rfl, g8⟩; obtain ⟨j0, j1⟩ := box_cells g8; have z8 : w7.heap.size < w8.heap.size := lt_of_cell j0; have H8 := Lib.hid (And.intro (g_trans (g_trans H7.out.1 (World.grownBy_alloc w7 _ none)) (g_trans g8 (World.grownBy_alloc w8 (.cells #[.int .u8 (f : Int), .int .i32 v] 23) none))) (H7.out.2.kept0 (g_trans (World.grownBy_alloc w7 _ none) (g_trans g8 (World.grownBy_alloc w8 (.cells #[.int .u8 (f : Int), .int .i32 v] 23) none))))); clear g8; have s1 := str_any H8.out.2 l HZ.out.2.1.symm; have s2 := str_any (HZ.out.1.kept0 H8.out.1) l HZ.out.2.1.symm))
            go_roundw
            case rel => exact ⟨k2 + 1, by omega, by go_num, g_trans H5.out.1 H8.out.1, H5.out.2.kept0 H8.out.1⟩
            case measure => simp [intOf]; omega
          · obtain rfl : k2 = 2 := by omega
            go_wp2_with (go_at_call 17; (with_reducible refine (works_any _).mono ?_); rintro e9 w9 ⟨rfl, g9⟩; have G9 := Lib.hid (g_trans H5.out.1 g9); clear g9)
            go_ret
            exact ⟨rfl, G9.out⟩
theorem walkCodeGets (a0 : Option Addr) (len0 cap0 : Nat) (z0 : List Int) (a1 a2 : Int) (w : World) (w0 : Came w a0 len0 cap0 z0) (w1 : (Lit.int .u8 a1).wf = true) (w2 : (Lit.int .u64 a2).wf = true) :
    Calls Try.prog 4 #[.slice a0 len0 cap0, .int .u8 a1, .int .u64 a2] w fun e w' => e = .returned (.bool true) ∧ Below w.heap.size w w' := by
  obtain ⟨xs, rfl, R, _⟩ := w0.rs
  have hb := byte_of_wf w1
  obtain ⟨n, rfl⟩ := Int.eq_ofNat_of_zero_le hb.1
  have hD : 0 ≤ a2 := by
    simp only [Lit.wf, IntKind.min, IntKind.max, IntKind.signed, IntKind.bits, Bool.and_eq_true] at w2
    have := w2.1
    simpa using this
  exact (gets_law (R.take 40) (cut_ys 40).symm (cut_of _ _) R.le hb.2 hD).mono fun _ _ ⟨he, hg⟩ => ⟨he, g_below0 hg⟩
end Go.Proofs.Ytiblicpaeogihaa
