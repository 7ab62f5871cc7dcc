/- The reference's search for the row of an instruction. -/
import Derived.Test.YtjdjkdgdbdenpaaGreatDoorM10
import Derived.Test.YtjdjkdgdbdenpaaGreatDoorM09
set_option linter.unusedVariables false
set_option linter.unusedSimpArgs false
namespace Go.Proofs.YtjdjkdgdbdenpaaGreatDoor
open Go Go.RowKit

theorem row5_at : ∀ (l : List (Int × Int)) (k : Nat) (p : Int × Int), l[k]? = some p → ∀ j : Nat, j < 5 → (l.flatMap row5)[k * 5 + j]? = (row5 p)[j]?
  | [], k, p, h, _, _ => by simp at h
  | x :: l, 0, p, h, j, hj => by
    simp only [List.getElem?_cons_zero, Option.some.injEq] at h
    subst h
    rw [List.flatMap_cons, Nat.zero_mul, Nat.zero_add, List.getElem?_append_left (by show j < 5; exact hj)]
  | x :: l, k + 1, p, h, j, hj => by
    rw [← row5_at l k p (by simpa using h) j hj, List.flatMap_cons, show (k + 1) * 5 + j = (row5 x).length + (k * 5 + j) by show _ = 5 + _; omega, List.getElem?_append_right (by omega)]
    congr 1
    omega
theorem rows_at {W : World} {g : Nat} {ps : List (Int × Int)} (h : BoxS W g 120 (ps.flatMap row5).toArray) {k : Nat} {p : Int × Int} (hk : ps[k]? = some p) :
    W.cell? ⟨g, k * 5, none⟩ = some (.int .u8 p.1) ∧ W.cell? ⟨g, k * 5 + 1, none⟩ = some (.int .i32 p.2) ∧ W.cell? ⟨g, k * 5 + 2, none⟩ = some (.string (strOf (nm p.1 p.2))) ∧ W.cell? ⟨g, k * 5 + 3, none⟩ = some (.int .i64 (tk p.1 p.2)) ∧ W.cell? ⟨g, k * 5 + 4, none⟩ = some (.int .i64 (lv p.1 p.2)) := by
  have hc := fun j hj => (h.cell (k * 5 + j)).trans ((by simp : (ps.flatMap row5).toArray[k * 5 + j]? = (ps.flatMap row5)[k * 5 + j]?).trans (row5_at ps k p hk j hj))
  exact ⟨hc 0 (by omega), hc 1 (by omega), hc 2 (by omega), hc 3 (by omega), hc 4 (by omega)⟩
/-- What Find hands back. -/
def fdF (f a : Int) : Int := if ex f a = true then f else 0
def fdA (f a : Int) : Int := if ex f a = true then (if f = 15 then a else 0) else 0
def FindIs (f a : Int) (w : World) (e : Ending) (w' : World) : Prop :=
  e = .returned (.tuple #[.agg #[.int .u8 (fdF f a), .int .i32 (fdA f a), .string (strOf (nm f a)), .int .i64 (tk f a), .int .i64 (lv f a)], .bool (ex f a)]) ∧ Below w.heap.size w w'
theorem upF_len : (upF 15).length = 13 := by decide +kernel
theorem upO_len : (upO 90).length = 74 := by decide +kernel
theorem upF_mem {p : Int × Int} (h : p ∈ upF 15) : p.1 < 15 ∧ p.2 = 0 ∧ ex p.1 0 = true := by
  unfold upF at h
  rw [List.mem_filter, List.mem_map] at h
  obtain ⟨⟨i, hi, rfl⟩, he⟩ := h
  rw [List.mem_range] at hi
  exact ⟨by simp; omega, rfl, he⟩
theorem upO_mem {p : Int × Int} (h : p ∈ upO 90) : p.1 = 15 ∧ ex 15 p.2 = true := by
  unfold upO at h
  rw [List.mem_filter, List.mem_map] at h
  obtain ⟨⟨i, hi, rfl⟩, he⟩ := h
  exact ⟨rfl, he⟩
/-- The row that is found. -/
theorem find_hit {f a : Int} {p : Int × Int} (h1 : p.1 = f) (h2 : (p ∈ upF 15) ∨ (p ∈ upO 90 ∧ p.2 = a)) (h15 : p ∈ upO 90 ↔ f = 15) : fdF f a = p.1 ∧ fdA f a = p.2 ∧ nm f a = nm p.1 p.2 ∧ tk f a = tk p.1 p.2 ∧ lv f a = lv p.1 p.2 ∧ ex f a = true := by
  subst h1
  rcases h2 with h | ⟨h, rfl⟩
  · obtain ⟨k1, k2, k3⟩ := upF_mem h
    obtain ⟨e1, e2, e3, e4⟩ := ex_nm (f := p.1) (a := a) (b := p.2) (.inl k1)
    have he : ex p.1 a = true := by rw [e1, k2]; exact k3
    exact ⟨by unfold fdF; rw [if_pos he], by unfold fdA; rw [if_pos he, if_neg (by omega), k2], e2, e3, e4, he⟩
  · obtain ⟨k1, k2⟩ := upO_mem h
    have he : ex p.1 p.2 = true := by rw [k1]; exact k2
    exact ⟨by unfold fdF; rw [if_pos he], by unfold fdA; rw [if_pos he, if_pos k1], rfl, rfl, rfl, he⟩
theorem find_miss {f a : Int} (hf : 0 ≤ f) (h1 : f ≠ 15 → ∀ p ∈ upF 15, p.1 ≠ f) (h2 : f = 15 → ∀ p ∈ upO 90, p.2 ≠ a) : fdF f a = 0 ∧ fdA f a = 0 ∧ nm f a = [] ∧ tk f a = 0 ∧ lv f a = 0 ∧ ex f a = false := by
  have he : ex f a = false := by
    rw [Bool.eq_false_iff]
    intro he
    have hm := ex_mem hf he
    rw [insts_eq, List.mem_append] at hm
    by_cases h15 : f = 15
    · rcases hm with hm | hm
      · have := (upF_mem hm).1; simp only at this; omega
      · rw [if_pos h15] at hm
        exact h2 h15 _ hm rfl
    · rcases hm with hm | hm
      · exact h1 h15 _ hm rfl
      · exact h15 (upO_mem hm).1
  have hr : rowL f a = ([], 0, 0) := by
    by_cases h1 : f < 15
    · obtain ⟨n, hn⟩ : ∃ n : Nat, f = n := ⟨f.toNat, by omega⟩
      have hall : ((List.range 15).all fun (i : Nat) => !(fnT.getD i ([], 0, 0)).1.isEmpty || fnT.getD i ([], 0, 0) == ([], 0, 0)) = true := by decide +kernel
      have := List.all_eq_true.1 hall n (by rw [List.mem_range]; omega)
      unfold ex nm rowL at he
      unfold rowL
      rw [if_pos h1] at he ⊢
      rw [hn, Int.toNat_natCast] at he ⊢
      rw [he, Bool.false_or] at this
      simpa using this
    · by_cases h2 : f = 15 ∧ 0 ≤ a ∧ a < 90
      · have hall : ((List.range 90).all fun (i : Nat) => !(opT.getD i ([], 0, 0)).1.isEmpty || opT.getD i ([], 0, 0) == ([], 0, 0)) = true := by decide +kernel
        have := List.all_eq_true.1 hall a.toNat (by rw [List.mem_range]; omega)
        unfold ex nm rowL at he
        unfold rowL
        rw [if_neg h1, if_pos h2] at he ⊢
        rw [he, Bool.false_or] at this
        simpa using this
      · unfold rowL; rw [if_neg h1, if_neg h2]
  obtain ⟨_, e2, e3, _⟩ := none_row hr
  exact ⟨by unfold fdF; rw [he]; rfl, by unfold fdA; rw [he]; rfl, by unfold nm; rw [hr], e2, e3, he⟩
end Go.Proofs.YtjdjkdgdbdenpaaGreatDoor
/- The reference's search for the row of an instruction: its walk. -/
namespace Go.Proofs.YtjdjkdgdbdenpaaGreatDoor
open Go Go.RowKit

theorem Functions_at (w : World) : Calls Tryz.prog 82 #[] w fun e w' => e = .returned (.slice (some ⟨w.heap.size, 0, none⟩) 13 13) ∧ BoxS w' w.heap.size 120 ((upF 15).flatMap row5).toArray ∧ Below w.heap.size w w' :=
  (Functions_run w).mono fun e w' ⟨h1, h2⟩ => by subst h2; exact ⟨h1, boxS_new w _ _, bal (b0 w) _⟩
theorem Operations_at (w : World) : Calls Tryz.prog 83 #[] w fun e w' => e = .returned (.slice (some ⟨w.heap.size, 0, none⟩) 74 74) ∧ BoxS w' w.heap.size 120 ((upO 90).flatMap row5).toArray ∧ Below w.heap.size w w' :=
  (Operations_run w).mono fun e w' ⟨h1, h2⟩ => by subst h2; exact ⟨h1, boxS_new w _ _, bal (b0 w) _⟩
theorem box5 {W : World} {k : Nat} {t : TypeId} {a b c d e : Value} (h : BoxS W k t #[a, b, c, d, e]) :
    W.cell? ⟨k, 0, none⟩ = some a ∧ W.cell? ⟨k, 1, none⟩ = some b ∧ W.cell? ⟨k, 2, none⟩ = some c ∧ W.cell? ⟨k, 3, none⟩ = some d ∧ W.cell? ⟨k, 4, none⟩ = some e ∧
    W.frozen? ⟨k, 0, none⟩ = false ∧ W.frozen? ⟨k, 1, none⟩ = false ∧ W.frozen? ⟨k, 2, none⟩ = false ∧ W.frozen? ⟨k, 3, none⟩ = false ∧ W.frozen? ⟨k, 4, none⟩ = false ∧ k < W.heap.size :=
  ⟨by simpa using h.cell 0, by simpa using h.cell 1, by simpa using h.cell 2, by simpa using h.cell 3, by simpa using h.cell 4, h.frozen 0, h.frozen 1, h.frozen 2, h.frozen 3, h.frozen 4, h.lt⟩
/-- What is known behind the call that lays the table. -/
theorem laid_at {w w1 : World} {a b : Value} {cs : Array Value} (t1 : BoxS w1 ((w.alloc (.cells #[a, b] 70)).alloc (.cells #[.int .u8 0, .int .i32 0, .string ⟨#[]⟩, .int .i64 0, .int .i64 0] 120)).heap.size 120 cs)
    (b1 : Below ((w.alloc (.cells #[a, b] 70)).alloc (.cells #[.int .u8 0, .int .i32 0, .string ⟨#[]⟩, .int .i64 0, .int .i64 0] 120)).heap.size ((w.alloc (.cells #[a, b] 70)).alloc (.cells #[.int .u8 0, .int .i32 0, .string ⟨#[]⟩, .int .i64 0, .int .i64 0] 120)) w1) :
    BoxS w1 (w.heap.size + 1 + 1) 120 cs ∧ BoxS w1 w.heap.size 70 #[a, b] ∧ BoxS w1 (w.heap.size + 1) 120 #[.int .u8 0, .int .i32 0, .string ⟨#[]⟩, .int .i64 0, .int .i64 0] ∧ Below w.heap.size w w1 := by
  have r := BoxS.below (boxS_new (w.alloc (.cells #[a, b] 70)) 120 #[.int .u8 0, .int .i32 0, .string ⟨#[]⟩, .int .i64 0, .int .i64 0]) b1
  rw [World.size_alloc] at r
  rw [World.size_alloc, World.size_alloc] at t1
  exact ⟨t1, ((boxS_new w _ _).grown (World.grownBy_alloc _ _ none)).below b1, r, blw (bal (bal (b0 w) _) _) b1⟩
set_option maxRecDepth 100000 in
set_option maxHeartbeats 4000000 in
theorem Find_fn (f a : Int) (hf : 0 ≤ f) (h15 : f ≠ 15) (w : World) :
    Calls Tryz.prog 70 #[.agg #[.int .u8 f, .int .i32 a]] w (FindIs f a w) := by
  have g1 : (f == 15) = false := by simpa using h15
  have g2 : (f != 15) = true := by simpa using h15
  have HF := Lib.hid (And.intro h15 hf)
  clear h15
  unfold FindIs
  go_enter Tryz.func70, Tryz.ntmps70
  go_wp2_with (go_at_call 82; refine (Functions_at _).mono ?_; rintro e w1 ⟨rfl, t1, b1⟩
               have L1 := Lib.hid (laid_at t1 b1); clear b1 t1
               obtain ⟨x1, x2, x3, x4, x5⟩ := boxf L1.out.2.1
               obtain ⟨r1, r2, r3, r4, r5, q1, q2, q3, q4, q5, r7⟩ := box5 L1.out.2.2.1)
  go_loopw [5] (fun i wr => ∃ k n : Nat, k ≤ 13 ∧ i = .int .i64 k ∧ wr = w1.drewN n ∧ Hid (∀ j, j < k → ∀ p, (upF 15)[j]? = some p → p.1 ≠ f)) (fun i _ => 13 - (intOf i).toNat)
  case atStart => exact ⟨0, 0, Nat.zero_le _, rfl, rfl, fun j hj => absurd hj (Nat.not_lt_zero j)⟩
  case round =>
    obtain ⟨k, n, hk, rfl, rfl, H⟩ := hrel
    by_cases hlt : k < 13
    · obtain ⟨p, hp⟩ : ∃ p, (upF 15)[k]? = some p := ⟨(upF 15)[k]'(by rw [upF_len]; exact hlt), List.getElem?_eq_getElem _⟩
      obtain ⟨c0, c1, c2, c3, c4⟩ := rows_at L1.out.1 hp
      have t5 : w.heap.size + 1 + 1 < w1.heap.size := L1.out.1.lt
      have HP := Lib.hid hp
      clear hp
      by_cases hpf : p.1 = f
      · have e1 : (p.1 == f) = true := by simpa using hpf
        have HE := Lib.hid hpf
        clear hpf
        have HR := Lib.hid (find_hit (a := a) HE.out (.inl (List.mem_of_getElem? HP.out)) ⟨fun h => (upO_mem h).1 ▸ HE.out ▸ rfl, fun h => absurd h HF.out.1⟩)
        go_wp2
        go_quiet (fail)
        go_wp2
        obtain ⟨m1, m2, m3, m4, m5, m6⟩ := HR.out
        refine bodyPost_ret (v := .tuple #[.agg #[.int .u8 p.1, .int .i32 p.2, .string (strOf (nm p.1 p.2)), .int .i64 (tk p.1 p.2), .int .i64 (lv p.1 p.2)], .bool true]) (by simp [results, Tryz.results70, go_sem, r1, r2, r3, r4, r5]) rfl ⟨?_, ?_⟩
        · rw [m1, m2, m3, m4, m5, m6]
        · exact bset (bset (bset (bset (bset (bdrew L1.out.2.2.2 _) (by omega) _) (by omega) _) (by omega) _) (by omega) _) (by omega) _
      · have e1 : (p.1 == f) = false := by simpa using hpf
        have HE := Lib.hid hpf
        clear hpf
        go_wp2
        go_quiet (fail)
        go_wp2
        go_roundw
        case rel => exact ⟨k + 1, n + nq, by omega, by go_num, by simp, fun j hj q hq => by by_cases e : j = k; (· subst e; rw [HP.out] at hq; cases hq; exact HE.out); (· exact H.out j (by omega) q hq)⟩
        case measure => simp [intOf]; omega
    · obtain rfl : k = 13 := by omega
      have HM := Lib.hid (find_miss (f := f) (a := a) HF.out.2 (fun _ p hp => by obtain ⟨j, hj, hjp⟩ := List.mem_iff_getElem.1 hp; exact H.out j (by rw [← upF_len]; exact hj) p (by rw [List.getElem?_eq_getElem hj, hjp])) (fun h => absurd h HF.out.1))
      go_wp2
      obtain ⟨m1, m2, m3, m4, m5, m6⟩ := HM.out
      refine bodyPost_ret (v := .tuple #[.agg #[.int .u8 0, .int .i32 0, .string ⟨#[]⟩, .int .i64 0, .int .i64 0], .bool false]) (by simp [results, Tryz.results70, go_sem, r1, r2, r3, r4, r5]) rfl ⟨?_, ?_⟩
      · rw [m1, m2, m3, m4, m5, m6]; rfl
      · exact bset (bset (bset (bset (bset (bdrew L1.out.2.2.2 _) (by omega) _) (by omega) _) (by omega) _) (by omega) _) (by omega) _
set_option maxRecDepth 100000 in
set_option maxHeartbeats 4000000 in
theorem Find_op (a : Int) (w : World) :
    Calls Tryz.prog 70 #[.agg #[.int .u8 15, .int .i32 a]] w (FindIs 15 a w) := by
  unfold FindIs
  go_enter Tryz.func70, Tryz.ntmps70
  go_wp2_with (first
             | (go_at_call 82; refine (Functions_at _).mono ?_; rintro e w0 ⟨rfl, t1, b1⟩
                have L0 := Lib.hid (laid_at t1 b1); clear b1 t1
                obtain ⟨y1, y2, y3, y4, y5⟩ := boxf L0.out.2.1)
             | (go_at_call 83; refine (Operations_at _).mono ?_; rintro e w1 ⟨rfl, t1, b1⟩
                have L1 := Lib.hid (And.intro t1 (And.intro (L0.out.2.1.below b1) (And.intro (L0.out.2.2.1.below b1) (blw L0.out.2.2.2 b1)))); clear b1 t1
                have Z0 := Lib.hid L0.out.2.2.1.lt
                obtain ⟨x1, x2, x3, x4, x5⟩ := boxf L1.out.2.1
                obtain ⟨r1, r2, r3, r4, r5, q1, q2, q3, q4, q5, r7⟩ := box5 L1.out.2.2.1))
  go_loopw [5] (fun i wr => ∃ k n : Nat, k ≤ 74 ∧ i = .int .i64 k ∧ wr = w1.drewN n ∧ Hid (∀ j, j < k → ∀ p, (upO 90)[j]? = some p → p.2 ≠ a)) (fun i _ => 74 - (intOf i).toNat)
  case atStart => exact ⟨0, 0, Nat.zero_le _, rfl, rfl, fun j hj => absurd hj (Nat.not_lt_zero j)⟩
  case round =>
    obtain ⟨k, n, hk, rfl, rfl, H⟩ := hrel
    by_cases hlt : k < 74
    · obtain ⟨p, hp⟩ : ∃ p, (upO 90)[k]? = some p := ⟨(upO 90)[k]'(by rw [upO_len]; exact hlt), List.getElem?_eq_getElem _⟩
      obtain ⟨c0, c1, c2, c3, c4⟩ := rows_at L1.out.1 hp
      have t5 : w0.heap.size < w1.heap.size := L1.out.1.lt
      rw [(upO_mem (List.mem_of_getElem? hp)).1] at c0
      have HP := Lib.hid hp
      clear hp
      by_cases hpf : p.2 = a
      · have e1 : (p.2 == a) = true := by simpa using hpf
        have HE := Lib.hid hpf
        clear hpf
        have HR := Lib.hid (find_hit (f := 15) (a := a) (upO_mem (List.mem_of_getElem? HP.out)).1 (.inr ⟨List.mem_of_getElem? HP.out, HE.out⟩) ⟨fun _ => rfl, fun _ => List.mem_of_getElem? HP.out⟩)
        go_wp2
        go_quiet (fail)
        go_wp2
        obtain ⟨m1, m2, m3, m4, m5, m6⟩ := HR.out
        refine bodyPost_ret (v := .tuple #[.agg #[.int .u8 15, .int .i32 p.2, .string (strOf (nm p.1 p.2)), .int .i64 (tk p.1 p.2), .int .i64 (lv p.1 p.2)], .bool true]) (by simp [results, Tryz.results70, go_sem, r1, r2, r3, r4, r5]) rfl ⟨?_, ?_⟩
        · rw [m1, m2, m3, m4, m5, m6, (upO_mem (List.mem_of_getElem? HP.out)).1]
        · exact bset (bset (bset (bset (bset (bdrew L1.out.2.2.2 _) (by omega) _) (by omega) _) (by omega) _) (by omega) _) (by omega) _
      · have e1 : (p.2 == a) = false := by simpa using hpf
        have HE := Lib.hid hpf
        clear hpf
        go_wp2
        go_quiet (fail)
        go_wp2
        go_roundw
        case rel => exact ⟨k + 1, n + nq, by omega, by go_num, by simp, fun j hj q hq => by by_cases e : j = k; (· subst e; rw [HP.out] at hq; cases hq; exact HE.out); (· exact H.out j (by omega) q hq)⟩
        case measure => simp [intOf]; omega
    · obtain rfl : k = 74 := by omega
      have HM := Lib.hid (find_miss (f := 15) (a := a) (by decide) (fun h => absurd rfl h) (fun _ p hp => by obtain ⟨j, hj, hjp⟩ := List.mem_iff_getElem.1 hp; exact H.out j (by rw [← upO_len]; exact hj) p (by rw [List.getElem?_eq_getElem hj, hjp])))
      go_wp2
      obtain ⟨m1, m2, m3, m4, m5, m6⟩ := HM.out
      refine bodyPost_ret (v := .tuple #[.agg #[.int .u8 0, .int .i32 0, .string ⟨#[]⟩, .int .i64 0, .int .i64 0], .bool false]) (by simp [results, Tryz.results70, go_sem, r1, r2, r3, r4, r5]) rfl ⟨?_, ?_⟩
      · rw [m1, m2, m3, m4, m5, m6]; rfl
      · exact bset (bset (bset (bset (bset (bdrew L1.out.2.2.2 _) (by omega) _) (by omega) _) (by omega) _) (by omega) _) (by omega) _
theorem Find_any (f a : Int) (hf : 0 ≤ f) (w : World) :
    Calls Tryz.prog 70 #[.agg #[.int .u8 f, .int .i32 a]] w (FindIs f a w) := by
  by_cases h : f = 15
  · subst h; exact Find_op a w
  · exact Find_fn f a hf h w
end Go.Proofs.YtjdjkdgdbdenpaaGreatDoor
