/- Trees and specifications that came in. -/
import Derived.Test.YtimbiobonigdmaaGreatDoorM18
import Derived.Deep.Slices
import Derived.ChangeSame
set_option linter.unusedVariables false
set_option linter.unusedSimpArgs false
set_option linter.unusedVariables false
set_option linter.unusedSimpArgs false
namespace Go.Proofs.YtimbiobonigdmaaGreatDoor
open Go Go.RowKit Go.ChangeShapes Go.WideShapes Go.Deep Go.ChangeAt L8 L10 L14

theorem list_of {α : Type} (d : α) {P : Nat → α → Prop} (n : Nat) (h : ∀ i, i < n → ∃ x, P i x) : ∃ ls : List α, ls.length = n ∧ ∀ i, i < n → P i (ls.getD i d) := by
  induction n with
  | zero => exact ⟨[], rfl, fun i hi => absurd hi (by omega)⟩
  | succ n ih =>
    obtain ⟨ls, hl, hp⟩ := ih (fun i hi => h i (by omega))
    obtain ⟨x, hx⟩ := h n (by omega)
    refine ⟨ls ++ [x], by simp [hl], fun i hi => ?_⟩
    by_cases hin : i < n
    · have e : (ls ++ [x]).getD i d = ls.getD i d := by simp [List.getElem?_append_left (show i < ls.length by omega)]
      rw [e]; exact hp i hin
    · obtain rfl : i = n := by omega
      have e : (ls ++ [x]).getD i d = x := by rw [← hl]; simp
      rw [e]; exact hx
theorem list_ofX {P : Nat → It → Prop} (n : Nat) (h : ∀ i, i < n → ∃ x, P i x) : ∃ ls : List It, ls.length = n ∧ ∀ i, i < n → P i (ls.getD i i0) := list_of i0 n h
/-- A specification as it came: what the laws look at, and the cells that they do not look at. -/
structure Sx where
  x : Sp
  N : Option Addr
  c : Nat
  B : Option Addr
  d : Nat
  v3 : Value
  v4 : Value
  v12 : Value
  v13 : Value
  v14 : Value
  v15 : Value
def sx0 : Sx := ⟨sp0, none, 0, none, 0, .int .u8 0, .string ⟨#[]⟩, .bool false, .slice none 0 0, .slice none 0 0, .slice none 0 0⟩
def sxC (y : Sx) : List Value := [.int .u8 (y.x.k : Int), .int .u8 (y.x.t : Int), .int .i64 y.x.d, y.v3, y.v4, .slice y.N y.x.ns.length y.c, .int .u8 (y.x.e.k : Int), .int .u8 (y.x.e.o : Int), .int .u8 (y.x.e.t : Int), .int .i32 y.x.e.n, .string (strOf y.x.e.s), .slice y.B y.x.e.l.length y.d, y.v12, y.v13, y.v14, y.v15]
def SxOne (y : Sx) : Prop := ∀ v ∈ sxC y, v.oneCell' = true
structure SxV (w : World) (y : Sx) : Prop where
  ok : SpOk y.x
  one : SxOne y
  ss : SS w y.N y.c y.x.ns
  tr : TrR w y.B y.d y.x.e.l
theorem SxV.keep {w w' : World} {y : Sx} (h : SxV w y) (b : Below w.heap.size w w') : SxV w' y := ⟨h.ok, h.one, h.ss.keep b, h.tr.keep b⟩
structure SxR (w : World) (A : Option Addr) (c : Nat) (l : List Sx) : Prop where
  le : l.length ≤ c
  mx : c ≤ maxLen
  rd : ∀ j, j < l.length → ∃ a, A = some a ∧ (∀ i, i < 16 → w.cell? ((a.add (j * 16)).add i) = (sxC (l.getD j sx0))[i]?) ∧ SxV w (l.getD j sx0)
theorem SxR.keep {w w' : World} {A : Option Addr} {c : Nat} {l : List Sx} (h : SxR w A c l) (b : Below w.heap.size w w') : SxR w' A c l :=
  ⟨h.le, h.mx, fun j hj => by
    obtain ⟨a, e, hc, hv⟩ := h.rd j hj
    refine ⟨a, e, fun i hi => ?_, hv.keep b⟩
    have := hc i hi
    have hs : i < (sxC (l.getD j sx0)).length := hi
    rw [List.getElem?_eq_getElem hs] at this ⊢
    exact (b.cell (g_lt this)).trans this⟩
theorem sx_getD (l : List Sx) (j : Nat) : (l.map Sx.x).getD j sp0 = (l.getD j sx0).x := by
  rw [List.getD_eq_getElem?_getD, List.getD_eq_getElem?_getD, List.getElem?_map]
  cases l[j]? <;> rfl
theorem sx_at {w : World} {a : Addr} {y : Sx} (h : ∀ i, i < 16 → w.cell? (a.add i) = (sxC y)[i]?) (v : SxV w y) : SpW w a y.x := by
  have h0 := h 0 (by omega)
  have e0 : a.add 0 = a := rfl
  rw [e0] at h0
  have hs : ∀ i, i < 15 → w.cell? ⟨a.block, a.off + (i + 1), none⟩ = (sxC y)[i + 1]? := fun i hi => by
    have := h (i + 1) (by omega)
    rwa [add_succ_] at this
  exact ⟨v.ok, y.N, y.c, y.B, y.d, ⟨h0, hs 0 (by omega), hs 1 (by omega), hs 4 (by omega), ⟨hs 5 (by omega), hs 6 (by omega), hs 7 (by omega), hs 8 (by omega), hs 9 (by omega), hs 10 (by omega)⟩, v.ss, v.tr⟩⟩
theorem SxR.sp {w : World} {A : Option Addr} {c : Nat} {l : List Sx} (h : SxR w A c l) : SpR w A c (l.map Sx.x) :=
  ⟨by rw [List.length_map]; exact h.le, h.mx, fun j hj => by
    rw [List.length_map] at hj
    obtain ⟨a, e, hc, hv⟩ := h.rd j hj
    rw [sx_getD]
    exact ⟨a, e, sx_at hc hv⟩⟩
theorem i64_wf {a : Int} (h : (Lit.int .i64 a).wf = true) : -9223372036854775808 ≤ a ∧ a ≤ 9223372036854775807 := by
  simp only [Lit.wf, IntKind.min, IntKind.max, IntKind.signed, IntKind.bits, Bool.and_eq_true, decide_eq_true_eq] at h
  simp at h
  omega
section
variable {H : Type} {enc : TypeId × Value → H} {w : World}
theorem u8_wfX {a : Int} (h : (Lit.int .u8 a).wf = true) : 0 ≤ a ∧ a < 256 := by
  simp only [Lit.wf, IntKind.min, IntKind.max, IntKind.signed, IntKind.bits, Bool.and_eq_true, decide_eq_true_eq] at h
  simp at h
  omega
theorem i32_wfX {a : Int} (h : (Lit.int .i32 a).wf = true) : -2147483648 ≤ a ∧ a ≤ 2147483647 := by
  simp only [Lit.wf, IntKind.min, IntKind.max, IntKind.signed, IntKind.bits, Bool.and_eq_true, decide_eq_true_eq] at h
  simp at h
  omega
set_option maxRecDepth 100000 in
theorem open_trees : ∀ fuel : Nat, (∀ (cs : List Value) (x : DataW H × List MemPlace), DataW.trod enc Tryz.prog w 0 (fun _ => true) true fuel 27 cs = some x → ∃ (e : Ex) (A : Option Addr) (c : Nat), cs = itC ⟨e, A, c⟩ ∧ OKe e ∧ TrR w A c e.l  )
    ∧ (∀ (A : Option Addr) (len cap : Nat) (x : DataW H × List MemPlace), DataW.trod enc Tryz.prog w 0 (fun _ => true) true fuel 25 [.slice A len cap] = some x → ∃ l : List Ex, l.length = len ∧ TrR w A cap l) := by
  intro fuel
  induction fuel with
  | zero => exact ⟨fun cs x h => by simp [DataW.trod] at h, fun A len cap x h => by simp [DataW.trod] at h⟩
  | succ fuel ih =>
    refine ⟨fun cs x h => ?_, fun A len cap x h => ?_⟩
    · obtain ⟨xs, n, hn, hx, hl, hlen, hf⟩ := DataW.trod_struct Tryz.underlying27 h
      obtain rfl : fuel = n := by omega
      have kl : Tryz.prog.cellsOf 27 = 6 := by kernel_rfl
      have k1 : Tryz.prog.cellsOf 22 = 1 := by kernel_rfl
      have k2 : Tryz.prog.cellsOf 23 = 1 := by kernel_rfl
      have k3 : Tryz.prog.cellsOf 24 = 1 := by kernel_rfl
      have k4 : Tryz.prog.cellsOf 21 = 1 := by kernel_rfl
      have k5 : Tryz.prog.cellsOf 9 = 1 := by kernel_rfl
      have k6 : Tryz.prog.cellsOf 25 = 1 := by kernel_rfl
      rw [kl] at hl
      match cs, hl with
      | [c0, c1, c2, c3, c4, c5], _ =>
        match xs, hlen with
        | [y0, y1, y2, y3, y4, y5], _ =>
          have f0 := hf 0 _ rfl
          have f1 := hf 1 _ rfl
          have f2 := hf 2 _ rfl
          have f3 := hf 3 _ rfl
          have f4 := hf 4 _ rfl
          have f5 := hf 5 _ rfl
          simp [k1, k2, k3, k4, k5, k6] at f0 f1 f2 f3 f4 f5
          obtain ⟨a, e0, _, w0⟩ := DataW.trod_int Tryz.underlying22 f0
          obtain ⟨b, e1, _, w1⟩ := DataW.trod_int Tryz.underlying23 f1
          obtain ⟨c, e2, _, w2⟩ := DataW.trod_int Tryz.underlying24 f2
          obtain ⟨d, e3, _, w3⟩ := DataW.trod_int Tryz.underlying21 f3
          obtain ⟨s, e4, _, w4⟩ := DataW.trod_string Tryz.underlying9 f4
          injection e0 with e0
          injection e1 with e1
          injection e2 with e2
          injection e3 with e3
          injection e4 with e4
          subst e0 e1 e2 e3 e4
          have ha := u8_wfX w0
          have hb := u8_wfX w1
          have hc := u8_wfX w2
          have hd := i32_wfX w3
          obtain ⟨a, rfl⟩ : ∃ k : Nat, a = (k : Int) := ⟨a.toNat, by omega⟩
          obtain ⟨b, rfl⟩ : ∃ k : Nat, b = (k : Int) := ⟨b.toNat, by omega⟩
          obtain ⟨c, rfl⟩ : ∃ k : Nat, c = (k : Int) := ⟨c.toNat, by omega⟩
          have hS : ∃ (A : Option Addr) (len cap : Nat), c5 = .slice A len cap := by
            rcases DataW.trod_slice Tryz.underlying25 f5 with ⟨e, _⟩ | ⟨ad, len, cap, _, _, _, _, e, _⟩
            · injection e with e; exact ⟨_, _, _, e⟩
            · injection e with e; exact ⟨_, _, _, e⟩
          obtain ⟨A, len, cap, rfl⟩ := hS
          obtain ⟨l, hll, R⟩ := ih.2 A len cap _ f5
          refine ⟨.mk a b c d s.data.toList l, A, cap, ?_, ?_, R⟩
          · unfold itC
            dsimp only [Ex.k, Ex.o, Ex.t, Ex.n, Ex.s, Ex.l]
            rw [hll, ← str_self s]
          · exact ⟨by show a < 256; omega, by show b < 256; omega, by show c < 256; omega, hd.1, hd.2, by show s.data.toList.length ≤ maxLen; simpa using w4⟩
    · rcases DataW.trod_slice Tryz.underlying25 h with ⟨e, hx⟩ | ⟨a, l, c, elems, rest, n, hn, e, hx, _, hl, hm, hlen, hi, _, _⟩
      · injection e with e _
        injection e with e1 e2 e3
        subst e1 e2 e3
        exact ⟨[], rfl, TrR.nil w⟩
      · obtain rfl : fuel = n := by omega
        injection e with e _
        injection e with e1 e2 e3
        subst e1 e2 e3
        have kl : Tryz.prog.cellsOf 27 = 6 := by kernel_rfl
        obtain ⟨ls, hls, hp⟩ := list_ofX (P := fun i y => OKe y.e ∧ ExAt w (a.add (i * 6)) y.e y.A y.c ∧ TrR w y.A y.c y.e.l) len (fun i him => by
          have key := hi i him
          rw [List.getElem?_eq_getElem (by omega), kl] at key
          obtain ⟨cs, hc, ht⟩ := Option.bind_eq_some_iff.1 key
          obtain ⟨_, hcl, hat⟩ := World.cells?_some hc
          obtain ⟨y, B, d, rfl, ok, R⟩ := ih.1 cs _ ht
          refine ⟨⟨y, B, d⟩, ok, ?_, R⟩
          have hcell : ∀ j, j < 6 → w.cell? ((a.add (i * 6)).add j) = (itC ⟨y, B, d⟩)[j]? := fun j hj => hat j hj
          have h0 := hcell 0 (by omega)
          rw [add_add_, Nat.add_zero] at h0
          have hs : ∀ j, j < 5 → w.cell? ⟨(a.add (i * 6)).block, (a.add (i * 6)).off + (j + 1), none⟩ = (itC ⟨y, B, d⟩)[j + 1]? := fun j hj => by
            have := hcell (j + 1) (by omega)
            rwa [add_succ_] at this
          exact ⟨h0, hs 0 (by omega), hs 1 (by omega), hs 2 (by omega), hs 3 (by omega), hs 4 (by omega)⟩)
        have hg : ∀ j, (ls.map It.e).getD j e0 = (ls.getD j i0).e := map_getD ls
        refine ⟨ls.map It.e, by rw [List.length_map, hls], ?_⟩
        refine .mk (fun j => (ls.getD j i0).A) (fun j => (ls.getD j i0).c) (by rw [List.length_map]; omega) hm (fun j hj => ?_) (fun j hj => ⟨_, rfl, ?_⟩) (fun j hj => ?_)
        all_goals
          rw [List.length_map, hls] at hj
          rw [hg]
        · exact (hp j hj).1
        · exact (hp j hj).2.1
        · exact (hp j hj).2.2

theorem open_strs {fuel : Nat} {A : Option Addr} {len cap : Nat} {x : DataW H × List MemPlace} (h : DataW.trod enc Tryz.prog w 0 (fun _ => true) true fuel 41 [.slice A len cap] = some x) : ∃ l : List Bs, l.length = len ∧ SS w A cap l ∧ ∀ s ∈ l, s.length ≤ maxLen := by
  rcases DataW.trod_slice Tryz.underlying41 h with ⟨e, hx⟩ | ⟨a, l, c, elems, rest, n, hn, e, hx, _, hl, hm, hlen, hi, _, _⟩
  · injection e with e _
    injection e with e1 e2 e3
    subst e1 e2 e3
    exact ⟨[], rfl, SS.nil w, fun s hs => by cases hs⟩
  · injection e with e _
    injection e with e1 e2 e3
    subst e1 e2 e3
    have kl : Tryz.prog.cellsOf 9 = 1 := by kernel_rfl
    obtain ⟨ls, hls, hp⟩ := list_of ([] : Bs) (P := fun i s => w.cell? (a.add i) = some (.string (strOf s)) ∧ s.length ≤ maxLen) len (fun i him => by
      have key := hi i him
      rw [List.getElem?_eq_getElem (by omega), kl, Nat.mul_one] at key
      obtain ⟨cs, hc, ht⟩ := Option.bind_eq_some_iff.1 key
      obtain ⟨_, hcl, hat⟩ := World.cells?_some hc
      obtain ⟨s, e4, _, w4⟩ := DataW.trod_string Tryz.underlying9 ht
      subst e4
      have h0 := hat 0 (by omega)
      exact ⟨s.data.toList, by rw [← str_self s]; exact h0, by simpa using w4⟩)
    refine ⟨ls, hls, ⟨by omega, hm, fun j hj => ⟨a, rfl, (hp j (by omega)).1⟩⟩, fun s hs => ?_⟩
    obtain ⟨j, hj, rfl⟩ := List.mem_iff_getElem.1 hs
    have := (hp j (by omega)).2
    rwa [List.getD_eq_getElem?_getD, List.getElem?_eq_getElem hj] at this
/-- A slice of words that came in. -/
structure IwR (w : World) (A : Option Addr) (c : Nat) (l : List Int) : Prop where
  le : l.length ≤ c
  mx : c ≤ maxLen
  rd : ∀ j, j < l.length → ∃ a, A = some a ∧ w.cell? (a.add j) = some (.int .i32 (l.getD j 0))
  wd : ∀ j, j < l.length → inW (l.getD j 0)
theorem IwR.keep {w w' : World} {A : Option Addr} {c : Nat} {l : List Int} (h : IwR w A c l) (b : Below w.heap.size w w') : IwR w' A c l :=
  ⟨h.le, h.mx, fun j hj => by obtain ⟨a, e, hc⟩ := h.rd j hj; exact ⟨a, e, (b.cell (g_lt hc)).trans hc⟩, h.wd⟩
theorem open_slice {t e : TypeId} {fuel : Nat} {v : Value} {x : DataW H × List MemPlace} (ht : Tryz.prog.underlying t = some (.slice e)) (h : DataW.trod enc Tryz.prog w 0 (fun _ => true) true fuel t [v] = some x) : ∃ A len cap, v = .slice A len cap := by
  rcases DataW.trod_slice ht h with ⟨e, _⟩ | ⟨ad, len, cap, _, _, _, _, e, _⟩
  · injection e with e; exact ⟨_, _, _, e⟩
  · injection e with e; exact ⟨_, _, _, e⟩
set_option maxRecDepth 100000 in
set_option maxHeartbeats 1000000 in
theorem open_spec {fuel : Nat} {cs : List Value} {x : DataW H × List MemPlace} (h : DataW.trod enc Tryz.prog w 0 (fun _ => true) true fuel 48 cs = some x) : ∃ y : Sx, cs = sxC y ∧ SxV w y := by
  obtain ⟨xs, n, hn, hx, hl, hlen, hf⟩ := DataW.trod_struct Tryz.underlying48 h
  have kl : Tryz.prog.cellsOf 48 = 16 := by kernel_rfl
  have k1 : Tryz.prog.cellsOf 38 = 1 := by kernel_rfl
  have k2 : Tryz.prog.cellsOf 40 = 4 := by kernel_rfl
  have k3 : Tryz.prog.cellsOf 41 = 1 := by kernel_rfl
  have k4 : Tryz.prog.cellsOf 27 = 6 := by kernel_rfl
  have k5 : Tryz.prog.cellsOf 44 = 2 := by kernel_rfl
  have k6 : Tryz.prog.cellsOf 45 = 1 := by kernel_rfl
  have k7 : Tryz.prog.cellsOf 46 = 1 := by kernel_rfl
  rw [kl] at hl
  match cs, hl with
  | [c0, c1, c2, c3, c4, c5, c6, c7, c8, c9, c10, c11, c12, c13, c14, c15], _ =>
    match xs, hlen with
    | [y0, y1, y2, y3, y4, y5, y6], _ =>
      have f0 := hf 0 _ rfl
      have f1 := hf 1 _ rfl
      have f2 := hf 2 _ rfl
      have f3 := hf 3 _ rfl
      have f4 := hf 4 _ rfl
      have f5 := hf 5 _ rfl
      have f6 := hf 6 _ rfl
      simp [k1, k2, k3, k4, k5, k6, k7] at f0 f1 f2 f3 f4 f5 f6
      obtain ⟨a, e0, _, w0⟩ := DataW.trod_int Tryz.underlying38 f0
      injection e0 with e0
      subst e0
      have ha := u8_wfX w0
      obtain ⟨a, rfl⟩ : ∃ k : Nat, a = (k : Int) := ⟨a.toNat, by omega⟩
      obtain ⟨gs, m, _, _, gl, glen, gf⟩ := DataW.trod_struct Tryz.underlying40 f1
      have j1 : Tryz.prog.cellsOf 24 = 1 := by kernel_rfl
      have j2 : Tryz.prog.cellsOf 3 = 1 := by kernel_rfl
      have j4 : Tryz.prog.cellsOf 9 = 1 := by kernel_rfl
      obtain ⟨g0, g1, g2, g3, rfl⟩ : ∃ y0 y1 y2 y3, gs = [y0, y1, y2, y3] := by
        match gs, glen with
        | [a, b, c, d], _ => exact ⟨a, b, c, d, rfl⟩
      have u0 := gf 0 _ rfl
      have u1 := gf 1 _ rfl
      have u2 := gf 2 _ rfl
      have u3 := gf 3 _ rfl
      simp [j1, j2, j4] at u0 u1 u2 u3
      obtain ⟨t, e1, _, w1⟩ := DataW.trod_int Tryz.underlying24 u0
      obtain ⟨d, e2, _, w2⟩ := DataW.trod_int Tryz.underlying3 u1
      obtain ⟨q, e3, _, w3⟩ := DataW.trod_int Tryz.underlying24 u2
      obtain ⟨s, e4, _, w4⟩ := DataW.trod_string Tryz.underlying9 u3
      injection e1 with e1
      injection e2 with e2
      injection e3 with e3
      injection e4 with e4
      subst e1 e2 e3 e4
      have ht := u8_wfX w1
      have hd := i64_wf w2
      obtain ⟨t, rfl⟩ : ∃ k : Nat, t = (k : Int) := ⟨t.toNat, by omega⟩
      obtain ⟨N, nl, nc, rfl⟩ := open_slice Tryz.underlying41 f2
      obtain ⟨ns, hns, SN, mN⟩ := open_strs f2
      obtain ⟨e, B, dd, he, oke, R⟩ := (open_trees _).1 _ _ f3
      unfold itC at he
      injection he with q0 he
      injection he with q1 he
      injection he with q2 he
      injection he with q3 he
      injection he with q4 he
      injection he with q5 he
      dsimp only at q0 q1 q2 q3 q4 q5
      subst q0 q1 q2 q3 q4 q5
      obtain ⟨ps, m', _, _, pl, plen, pf⟩ := DataW.trod_struct Tryz.underlying44 f4
      have i1 : Tryz.prog.cellsOf 4 = 1 := by kernel_rfl
      have i2 : Tryz.prog.cellsOf 42 = 1 := by kernel_rfl
      obtain ⟨p0, p1, rfl⟩ : ∃ y0 y1, ps = [y0, y1] := by
        match ps, plen with
        | [a, b], _ => exact ⟨a, b, rfl⟩
      have v0 := pf 0 _ rfl
      have v1 := pf 1 _ rfl
      simp [i1, i2] at v0 v1
      obtain ⟨bb, e5, _⟩ := DataW.trod_bool Tryz.underlying4 v0
      injection e5 with e5
      subst e5
      obtain ⟨V, vl, vc, rfl⟩ := open_slice Tryz.underlying42 v1
      obtain ⟨F, fl, fc, rfl⟩ := open_slice Tryz.underlying45 f5
      obtain ⟨G, gl2, gc, rfl⟩ := open_slice Tryz.underlying46 f6
      subst hns
      refine ⟨⟨⟨a, t, d, ns, e⟩, N, nc, B, dd, .int .u8 q, .string s, .bool bb, .slice V vl vc, .slice F fl fc, .slice G gl2 gc⟩, rfl, ⟨⟨by show a < 256; omega, by show t < 256; omega, hd.1, hd.2, oke, mN⟩, ?_, SN, R⟩⟩
      intro v hv
      simp only [sxC, List.mem_cons, List.not_mem_nil, or_false] at hv
      rcases hv with rfl | rfl | rfl | rfl | rfl | rfl | rfl | rfl | rfl | rfl | rfl | rfl | rfl | rfl | rfl | rfl <;> rfl
theorem open_specs {fuel : Nat} {A : Option Addr} {len cap : Nat} {x : DataW H × List MemPlace} (h : DataW.trod enc Tryz.prog w 0 (fun _ => true) true fuel 28 [.slice A len cap] = some x) : ∃ l : List Sx, l.length = len ∧ SxR w A cap l := by
  rcases DataW.trod_slice Tryz.underlying28 h with ⟨e, hx⟩ | ⟨a, l, c, elems, rest, n, hn, e, hx, _, hl, hm, hlen, hi, _, _⟩
  · injection e with e _
    injection e with e1 e2 e3
    subst e1 e2 e3
    exact ⟨[], rfl, ⟨Nat.le_refl _, by simp [maxLen], fun j hj => absurd hj (by simp)⟩⟩
  · injection e with e _
    injection e with e1 e2 e3
    subst e1 e2 e3
    have kl : Tryz.prog.cellsOf 48 = 16 := by kernel_rfl
    obtain ⟨ls, hls, hp⟩ := list_of sx0 (P := fun i y => (∀ j, j < 16 → w.cell? ((a.add (i * 16)).add j) = (sxC y)[j]?) ∧ SxV w y) len (fun i him => by
      have key := hi i him
      rw [List.getElem?_eq_getElem (by omega), kl] at key
      obtain ⟨cs, hc, ht⟩ := Option.bind_eq_some_iff.1 key
      obtain ⟨_, hcl, hat⟩ := World.cells?_some hc
      obtain ⟨y, rfl, v⟩ := open_spec ht
      exact ⟨y, fun j hj => hat j hj, v⟩)
    exact ⟨ls, hls, ⟨by omega, hm, fun j hj => ⟨a, rfl, hp j (by omega)⟩⟩⟩
end
end Go.Proofs.YtimbiobonigdmaaGreatDoor
