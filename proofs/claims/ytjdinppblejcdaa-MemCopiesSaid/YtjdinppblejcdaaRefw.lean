/- The reference of package mem: what it stores. -/
import Derived.Test.YtjdinppblejcdaaRefm
namespace Go.Proofs.Ytjdinppblejcdaa
open Go Go.RowKit

theorem g_app {w0 w w' : World} {v : Value} {n : Nat} {xs : List Value} {e : TypeId} (h : w0.grownBy w none) (hown : w.ownsRow w0.heap.size e 1 v n xs) (k : w.grownBy w' v.ownBlock) : w0.grownBy w' none :=
  ⟨k.os.trans h.os, k.tape.trans h.tape, k.output.trans h.output, Nat.le_trans h.size k.size, fun i hi _ => (k.block i (Nat.lt_of_lt_of_le hi h.size) (fun e => by have := (hown.lt i e.symm).1; omega)).trans (h.block i hi (by simp))⟩
/-- Bytes appended to a row of the call's own. -/
theorem app_bytes {w : World} {ops : Array Oper} {rest : List Oper} {o : Oper} {a : Act} {Q : Exit → Act → World → Prop} (hgd : o.guard = none) (s x : Operand)
    (ho : o.op = .call { callee := .builtin .append, args := #[s, x], argTypes := #[30, 30] }) (base n c m d l : Nat) (A A' : Option Addr) (xs ys : List Nat) (hs : a.eval s = .slice A n c) (hx : a.eval x = .slice A' m d)
    (hown : w.ownsRow base 5 1 (.slice A n c) n (bs xs)) (hy : ys.length = m) (hsrc : ∀ j, j < ys.length → ∃ ad, A' = some ad ∧ w.cell? (ad.add j) = some (bc ys j)) (hl : n + m = l) (h63 : l ≤ 200000) (hbase : base ≤ w.heap.size)
    (h : ∀ A2 c2 w', w'.ownsRow base 5 1 (.slice A2 l c2) l (bs (xs ++ ys)) → w.grownBy w' (Value.slice A n c).ownBlock → wpList Try.prog ops Q rest (a.put o.dst (.slice A2 l c2)) w') : wpList Try.prog ops Q (o :: rest) a w := by
  obtain ⟨i0, hi0, hz0, hz1, hz2⟩ := info_parts byte_info
  have done : ∀ v' w', w'.ownsRow base 5 1 v' (n + m) (bs xs ++ bs ys) → w.grownBy w' (Value.slice A n c).ownBlock → wpList Try.prog ops Q rest (a.put o.dst v') w' := by
    intro v' w' ho' hg'
    rw [← bs_app, hl] at ho'
    rcases ho'.2 with ⟨rfl, h0⟩ | ⟨g, cap, cur, rfl, _⟩
    · rw [h0] at ho' h
      exact h none 0 w' ho' hg'
    · exact h _ _ w' ho' hg'
  rcases A' with _ | ad
  · have h0 : ys = [] := by
      rcases Nat.eq_zero_or_pos ys.length with h | h
      · exact List.eq_nil_of_length_eq_zero h
      · obtain ⟨ad, e, _⟩ := hsrc 0 h
        cases e
    subst h0
    rw [List.length_nil] at hy
    subst hy
    have hrun : (Builtin.append_ #[30, 30] o.type #[.slice A n c, .slice none 0 d]).run Try.prog w = .ok (.slice A n c) w := by
      rcases hown.2 with ⟨hv, h0⟩ | ⟨g, cap, cur, hv, _, _, hnc, _⟩
      · injection hv with h1 h2 h3
        subst h1; subst h3
        simp [Builtin.append_, run_underlying Try.underlying30, sizeOf, typeInfo, hi0, Builtin.lenOf, Builtin.firstCells, h0]
      · injection hv with h1 h2 h3
        subst h1; subst h3
        simp [Builtin.append_, run_underlying Try.underlying30, sizeOf, typeInfo, hi0, Builtin.lenOf, Builtin.firstCells, hnc, storeCells]
    refine wpList_plain hgd fun K hK => ?_
    unfold Oper.wp execOp
    simp only [ho, resolve, invoke, builtin, Sem.run_bind, Sem.run_pure, Result.andThen_ok, List.map_toArray, List.map_cons, List.map_nil, hs, hx, hrun]
    exact hK _ _ (done _ w (by simpa [bs] using hown) (World.grownBy.refl w _))
  · have hcell : ∀ j u, (bs ys)[j]? = some u → w.cell? (ad.add j) = some u := by
      intro j u hj
      by_cases h : j < ys.length
      · obtain ⟨ad', e, hc⟩ := hsrc j h
        cases e
        rw [bs_at h] at hj
        cases hj
        exact hc
      · rw [List.getElem?_eq_none (by rw [bs_len]; omega)] at hj; cases hj
    exact wpList_append_own w hgd s x 30 ho base 5 i0 (.int .u8 0) 1 1 Try.underlying30 hi0 hz0 hz1 hz2 rfl (by omega) (.slice A n c) n (bs xs) hs hown ad m d (bs ys) hx (by rw [bs_len]; omega) hcell (bs_one ys)
      (by unfold maxLen; omega) (by omega) hbase (fun v' w' h1 h2 _ => done v' w' h1 h2)
theorem own_nil' (w : World) (B : Nat) : w.ownsRow B 5 1 (.slice none 0 0) 0 (bs []) := World.ownsRow_nil w B _ 1
theorem put_any {A B : Option Addr} {c d i : Nat} {xs ys : List Nat} {w : World} (R : RS w A c xs) (S : RS w B d ys) (h : i + ys.length ≤ xs.length) (hl : xs.length ≤ 65536) :
    Calls Try.prog 50 #[.slice A xs.length c, .int .i64 (i : Int), .slice B ys.length d] w fun e w' => ∃ A2 c2, e = .returned (.slice A2 xs.length c2) ∧ w.grownBy w' none ∧ w'.ownsRow w.heap.size 5 1 (.slice A2 xs.length c2) xs.length (bs (put xs i ys)) := by
  have HR := Lib.hid R
  have HS := Lib.hid S
  obtain ⟨m, hm⟩ : ∃ m, m = ys.length := ⟨_, rfl⟩
  obtain ⟨L, hL⟩ : ∃ L, L = xs.length := ⟨_, rfl⟩
  have hLc := R.le
  have hmx := R.mx
  unfold maxLen at hmx
  have HM := Lib.hid hm
  have HL := Lib.hid hL
  rw [← hm] at h ⊢
  rw [← hL] at h hl hLc ⊢
  have h1 : (i : Int) ≤ (c : Int) := by omega
  have h2 : (i : Int) + m ≤ (L : Int) := by omega
  have h3 : (L : Int) ≤ (c : Int) := by omega
  have h4 : (0 : Int) ≤ (i : Int) := by omega
  have h5 : (0 : Int) ≤ (i : Int) + m := by omega
  have h6 : ((i : Int) + m).toNat = i + m := by omega
  have h7 : wrap64 ((i : Int) + m) = (i : Int) + m := by unfold wrap64; omega
  have H := Lib.hid (And.intro h (And.intro hl hLc))
  clear R S hm hL h hl hLc
  have P1 := Lib.hid (fun j (hj : j < (xs.take i).length) => show ∃ ad, A = some ad ∧ w.cell? (ad.add j) = some (bc (xs.take i) j) from by
    rw [List.length_take] at hj
    obtain ⟨ad, e, hc⟩ := HR.out.rd j (by omega)
    refine ⟨ad, e, ?_⟩
    rw [hc]
    unfold bc
    simp only [List.getD_eq_getElem?_getD]
    rw [List.getElem?_take, if_pos (by omega)])
  have P3 := Lib.hid (fun (w1 : World) (R1 : RS w1 A c xs) j (hj : j < (xs.drop (i + m)).length) => show ∃ ad, (if c = i + m then A else A.map (·.add (i + m))) = some ad ∧ w1.cell? (ad.add j) = some (bc (xs.drop (i + m)) j) from by
    rw [List.length_drop] at hj
    obtain ⟨ad, e, hc⟩ := R1.rd (i + m + j) (by omega)
    have := R1.le
    rw [if_neg (by omega), e]
    refine ⟨_, rfl, ?_⟩
    rw [add_add_, hc]
    unfold bc
    simp only [List.getD_eq_getElem?_getD]
    rw [List.getElem?_drop])
  go_enter Try.func50, Try.ntmps50
  go_wp2_with (first
    | (at_builtin; refine app_bytes rfl (.tmp 8) (.tmp 11) rfl w.heap.size 0 0 i c i none A [] (xs.take i) rfl rfl (own_nil' w _) (by have := H.out; have := HL.out; simp; omega) P1.out (by omega) (by have := H.out; omega) (Nat.le_refl _) ?_; intro A1 c1 w1 o1 g1; have O1 := Lib.hid o1; have G1 := Lib.hid (g_app (World.grownBy.refl w none) (own_nil' w _) g1); clear o1 g1)
    | (at_builtin; refine app_bytes rfl (.tmp 13) (.tmp 14) rfl w.heap.size i c1 m d (i + m) A1 B ([] ++ xs.take i) ys rfl rfl O1.out HM.out.symm (HS.out.kept0 G1.out).rd rfl (by have := H.out; omega) G1.out.size ?_; intro A2 c2 w2 o2 g2; have O2 := Lib.hid o2; have G2 := Lib.hid (g_app G1.out O1.out g2); clear o2 g2)
    | (at_builtin; refine app_bytes rfl (.tmp 16) (.tmp 22) rfl w.heap.size (i + m) c2 (L - (i + m)) (c - (i + m)) L A2 _ (([] ++ xs.take i) ++ ys) (xs.drop (i + m)) rfl rfl O2.out (by have := HL.out; simp; omega) (P3.out w2 (HR.out.kept0 G2.out)) (by have := H.out; omega) (by have := H.out; omega) G2.out.size ?_; intro A3 c3 w3 o3 g3; have O3 := Lib.hid o3; have G3 := Lib.hid (g_app G2.out O2.out g3); clear o3 g3))
  all_goals
    go_ret
    refine ⟨A3, c3, rfl, G3.out, ?_⟩
    have e : put xs i ys = ([] ++ xs.take i) ++ ys ++ xs.drop (i + m) := by
      have := HM.out
      simp [put, this]
    rw [e]
    exact O3.out
/-- What the reference's stores return: the bytes of a memory, and an error. -/
def RefSt (w : World) (A : Option Addr) (e' : Int) (ys : List Nat) (e : Ending) (w' : World) : Prop := ∃ A' c', e = .returned (.tuple #[.slice A' ys.length c', .int .i64 e']) ∧ w.grownBy w' none ∧ RS w' A' c' ys ∧ New w A A'
theorem rs_of_own {w w' : World} {A : Option Addr} {c n : Nat} {xs : List Nat} (h : w'.ownsRow w.heap.size 5 1 (.slice A n c) n (bs xs)) (hn : n = xs.length) (hb : BY xs) : RS w' A c xs ∧ Fresh w A := by
  subst hn
  have := OwnB.rs (B := w.heap.size) h hb
  exact ⟨this.1, this.2.1⟩
theorem rs_of_row {w : World} {g : Nat} {xs : List Nat} (h : w.heap[g]? = some (.cells (bs xs).toArray 5 (0, 0))) (hm : xs.length ≤ maxLen) (hb : BY xs) : RS w (some ⟨g, 0, none⟩) xs.length xs :=
  (OwnB.rs (own_row h (Nat.zero_le _) hm) hb).1
theorem Four_any (v : Int) (w : World) : Calls Try.prog 51 #[.int .i32 v] w fun e w' => e = .returned (.slice (some ⟨w.heap.size, 0, none⟩) 4 4) ∧ w.grownBy w' none ∧ RS w' (some ⟨w.heap.size, 0, none⟩) 4 (four v) := by
  obtain ⟨u, hu⟩ : ∃ u, u = (v % 4294967296).toNat := ⟨_, rfl⟩
  have E : v % 4294967296 = (u : Int) := by omega
  have HU := Lib.hid (show four v = [u % 256, u / 256 % 256, u / 65536 % 256, u / 16777216] by unfold four; rw [← hu]; congr 4; omega)
  clear hu
  go_enter Try.func51, Try.ntmps51
  go_wp2
  go_ret
  refine ⟨rfl, World.grownBy_alloc w _ none, ?_⟩
  have e : (#[.int .u8 ((u : Int) % 256), .int .u8 ((u : Int) / 256 % 256), .int .u8 ((u : Int) / 65536 % 256), .int .u8 ((u : Int) / 16777216)] : Array Value) = (bs (four v)).toArray := by
    rw [HU.out]
    simp [bs]
  rw [e]
  exact rs_of_row (xs := four v) (heap_alloc_new w _) (by rw [four_len]; simp [maxLen]) (four_by v)
theorem one_any (w : World) (v : Nat) (hv : v < 256) : RS (w.alloc (.cells #[.int .u8 (v : Int)] 5)) (some ⟨w.heap.size, 0, none⟩) 1 [v] :=
  rs_of_row (xs := [v]) (heap_alloc_new w _) (by simp [maxLen]) (by intro x hx; simp at hx; omega)
theorem rSetByte_any {A : Option Addr} {c : Nat} {xs : List Nat} {w : World} (R : RS w A c xs) (hl : xs.length ≤ 65536) {a : Int} (ha : isW a) {v : Nat} (hv : v < 256) : Calls Try.prog 38 #[.slice A xs.length c, .int .i32 a, .int .u8 (v : Int)] w
    (RefSt w A (er xs.length (ix a) 1) (wr xs (ix a) [v])) := by
  unfold RefSt
  have C' : Calls Try.prog 47 #[.int .i64 (xs.length : Int), .int .i32 a, .int .i64 1] w _ := Lies_any ha xs.length 1 hl (by omega) (by omega) w
  have CI := Lib.hid (Index_any ha)
  have HR := Lib.hid R
  by_cases h : ix a + 1 ≤ xs.length
  · have C := Lib.hid (at_ C' (ret_b (decide_eq_true h)))
    have D := Lib.hid (put_any (R.kept0 (World.grownBy_alloc w _ none)) (one_any w v hv) (i := ix a) h hl)
    rw [List.length_cons, List.length_nil] at D
    have HW := Lib.hid (show wr xs (ix a) [v] = put xs (ix a) [v] ∧ (put xs (ix a) [v]).length = xs.length ∧ BY (put xs (ix a) [v]) from ⟨if_pos h, put_len h, put_by R.by_ (by intro x hx; simp at hx; omega)⟩)
    rw [er_in h, HW.out.1]
    rw [HW.out.2.1]
    clear R ha C' hl h
    generalize ix a = i at *
    generalize hL : xs.length = L at *
    clear hL
    go_enter Try.func38, Try.ntmps38
    go_wp2_with (first
      | (go_at_call 47; (with_reducible refine C.out.mono ?_); rintro e w' ⟨rfl, rfl⟩)
      | (go_at_call 48; (with_reducible refine (CI.out _).mono ?_); rintro e w' ⟨rfl, rfl⟩)
      | (go_at_call 50; (with_reducible refine D.out.mono ?_); rintro e w1 ⟨A2, c2, rfl, H⟩; have H1 := Lib.hid H; clear H))
    go_ret2
    have G := g_trans (World.grownBy_alloc w _ none) H1.out.1
    have O := rs_of_own H1.out.2 HW.out.2.1.symm HW.out.2.2
    exact ⟨A2, c2, rfl, G, O.1, .inr (fun ad e => Nat.le_trans (by simp) (O.2 ad e))⟩
  · have C := Lib.hid (at_ C' (ret_b (decide_eq_false h)))
    rw [er_out (by omega) h, show wr xs (ix a) [v] = xs from if_neg h]
    clear R ha C' hl h
    generalize ix a = i at *
    generalize hL : xs.length = L at *
    clear hL
    go_enter Try.func38, Try.ntmps38
    go_wp2_with (go_at_call 47; (with_reducible refine C.out.mono ?_); rintro e w' ⟨rfl, rfl⟩)
    go_ret2
    exact ⟨A, c, rfl, World.grownBy.refl _ _, HR.out, .inl rfl⟩
theorem rSetWord_any {A : Option Addr} {c : Nat} {xs : List Nat} {w : World} (R : RS w A c xs) (hl : xs.length ≤ 65536) (he : xs.length % 4 = 0) {a v : Int} (ha : isW a) : Calls Try.prog 39 #[.slice A xs.length c, .int .i32 a, .int .i32 v] w
    (RefSt w A (er xs.length (wx a) 4) (wr xs (wx a) (four v))) := by
  unfold RefSt
  have C' : Calls Try.prog 47 #[.int .i64 (xs.length : Int), .int .i32 a, .int .i64 1] w _ := Lies_any ha xs.length 1 hl (by omega) (by omega) w
  have CI := Lib.hid (Index_any ha)
  have HR := Lib.hid R
  obtain ⟨f1, f2⟩ := fit_word (a := a) he
  by_cases h : ix a + 1 ≤ xs.length
  · have h' := f1.1 h
    have C := Lib.hid (at_ C' (ret_b (decide_eq_true h)))
    have D := Lib.hid (fun (w1 : World) (R1 : RS w1 A c xs) (R2 : RS w1 (some ⟨w.heap.size, 0, none⟩) 4 (four v)) => put_any R1 R2 (i := wx a) h' hl)
    rw [four_len] at D
    have HW := Lib.hid (show wr xs (wx a) (four v) = put xs (wx a) (four v) ∧ (put xs (wx a) (four v)).length = xs.length ∧ BY (put xs (wx a) (four v)) from ⟨if_pos h', put_len h', put_by R.by_ (four_by v)⟩)
    rw [er_in h', HW.out.1]
    rw [HW.out.2.1]
    have w1 : (ix a : Int) - (ix a : Int) % 4 = (wx a : Int) := by omega
    have hix := ix_lt ha
    clear R ha C' hl h f1 f2 he h'
    generalize wx a = k at *
    generalize ix a = i at *
    generalize hL : xs.length = L at *
    clear hL
    go_enter Try.func39, Try.ntmps39
    go_wp2_with (first
      | (go_at_call 47; (with_reducible refine C.out.mono ?_); rintro e w' ⟨rfl, rfl⟩)
      | (go_at_call 48; (with_reducible refine (CI.out _).mono ?_); rintro e w' ⟨rfl, rfl⟩)
      | (go_at_call 51; (with_reducible refine (Four_any _ _).mono ?_); rintro e w1 ⟨rfl, H⟩; have H1 := Lib.hid H; clear H)
      | (go_at_call 50; (with_reducible refine (D.out _ (HR.out.kept0 H1.out.1) H1.out.2).mono ?_); rintro e w2 ⟨A2, c2, rfl, H⟩; have H2 := Lib.hid H; clear H))
    go_ret2
    have G := g_trans H1.out.1 H2.out.1
    have O := rs_of_own H2.out.2 HW.out.2.1.symm HW.out.2.2
    exact ⟨A2, c2, rfl, G, O.1, .inr (fun ad e => Nat.le_trans H1.out.1.size (O.2 ad e))⟩
  · have C := Lib.hid (at_ C' (ret_b (decide_eq_false h)))
    have h' : ¬ wx a + 4 ≤ xs.length := fun e => h (f1.2 e)
    rw [er_out (by omega) h', show wr xs (wx a) (four v) = xs from if_neg h']
    clear R ha C' hl h f1 f2 he h'
    generalize ix a = i at *
    generalize hL : xs.length = L at *
    clear hL
    go_enter Try.func39, Try.ntmps39
    go_wp2_with (go_at_call 47; (with_reducible refine C.out.mono ?_); rintro e w' ⟨rfl, rfl⟩)
    go_ret2
    exact ⟨A, c, rfl, World.grownBy.refl _ _, HR.out, .inl rfl⟩
theorem rWrite_any {A B : Option Addr} {c d : Nat} {xs ys : List Nat} {w : World} (R : RS w A c xs) (S : RS w B d ys) (hl : xs.length ≤ 65536) {a : Int} (ha : isW a) : Calls Try.prog 40 #[.slice A xs.length c, .int .i32 a, .slice B ys.length d] w
    (RefSt w A (er xs.length (ix a) ys.length) (wr xs (ix a) ys)) := by
  unfold RefSt
  have HR := Lib.hid R
  have hmx := Nat.le_trans S.le S.mx
  unfold maxLen at hmx
  by_cases h0 : ys.length = 0
  · rw [h0, wr_zero _ h0, er_zero]
    clear R S ha hl h0 hmx
    generalize hL : xs.length = L at *
    clear hL
    go_enter Try.func40, Try.ntmps40
    go_wp2
    go_ret2
    exact ⟨A, c, rfl, World.grownBy.refl _ _, HR.out, .inl rfl⟩
  · have C' := Lies_any ha xs.length ys.length hl (by omega) h0 w
    have CI := Lib.hid (Index_any ha)
    have h1 : ¬ ((ys.length : Int) = 0) := by omega
    by_cases h : ix a + ys.length ≤ xs.length
    · have C := Lib.hid (at_ C' (ret_b (decide_eq_true h)))
      have D := Lib.hid (put_any R S (i := ix a) h hl)
      have HW := Lib.hid (show wr xs (ix a) ys = put xs (ix a) ys ∧ (put xs (ix a) ys).length = xs.length ∧ BY (put xs (ix a) ys) from ⟨if_pos h, put_len h, put_by R.by_ S.by_⟩)
      rw [er_in h, HW.out.1]
      rw [HW.out.2.1]
      clear R S ha C' hl h h0 hmx
      generalize ix a = i at *
      generalize hm : ys.length = m at *
      clear hm
      generalize hL : xs.length = L at *
      clear hL
      go_enter Try.func40, Try.ntmps40
      go_wp2_with (first
        | (go_at_call 47; (with_reducible refine C.out.mono ?_); rintro e w' ⟨rfl, rfl⟩)
        | (go_at_call 48; (with_reducible refine (CI.out _).mono ?_); rintro e w' ⟨rfl, rfl⟩)
        | (go_at_call 50; (with_reducible refine D.out.mono ?_); rintro e w1 ⟨A2, c2, rfl, H⟩; have H1 := Lib.hid H; clear H))
      go_ret2
      have O := rs_of_own H1.out.2 HW.out.2.1.symm HW.out.2.2
      exact ⟨A2, c2, rfl, H1.out.1, O.1, .inr O.2⟩
    · have C := Lib.hid (at_ C' (ret_b (decide_eq_false h)))
      rw [er_out h0 h, show wr xs (ix a) ys = xs from if_neg h]
      clear R S ha C' hl h h0 hmx
      generalize ix a = i at *
      generalize hm : ys.length = m at *
      clear hm
      generalize hL : xs.length = L at *
      clear hL
      go_enter Try.func40, Try.ntmps40
      go_wp2_with (go_at_call 47; (with_reducible refine C.out.mono ?_); rintro e w' ⟨rfl, rfl⟩)
      go_ret2
      exact ⟨A, c, rfl, World.grownBy.refl _ _, HR.out, .inl rfl⟩
end Go.Proofs.Ytjdinppblejcdaa
