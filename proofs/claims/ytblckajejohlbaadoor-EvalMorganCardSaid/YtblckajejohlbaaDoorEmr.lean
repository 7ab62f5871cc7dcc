/- The law EvalMorgan: two regions that make two boxes beside a chain of calls: every order. -/
import Derived.Test.YtblckajejohlbaaDoorEmn
import Derived.Test.YtblckajejohlbaaDoorM09
import Derived.Deep.QuietTactic
import Derived.BigQuiet
set_option linter.unusedVariables false
set_option linter.unusedSimpArgs false
set_option linter.unusedVariables false
set_option linter.unusedSimpArgs false
namespace Go.Proofs.YtblckajejohlbaaDoor
open Go Go.RowKit L8 L22 L17

/-- What the loads read: the two boxes. -/
def SB (p q : Nat) (a b : Kx) (A B : Option Addr) (n m c d : Nat) (X : World) : Prop :=
  X.cell? ⟨p, 0, none⟩ = some (.int .u8 (a.k : Int)) ∧ X.cell? ⟨p, 1, none⟩ = some (.int .u8 (a.o : Int)) ∧ X.cell? ⟨p, 2, none⟩ = some (.int .u8 (a.t : Int)) ∧ X.cell? ⟨p, 3, none⟩ = some (.int .i32 a.n) ∧ X.cell? ⟨p, 4, none⟩ = some (.int .i64 a.v) ∧ X.cell? ⟨p, 5, none⟩ = some (.slice A n c) ∧
  X.cell? ⟨q, 0, none⟩ = some (.int .u8 (b.k : Int)) ∧ X.cell? ⟨q, 1, none⟩ = some (.int .u8 (b.o : Int)) ∧ X.cell? ⟨q, 2, none⟩ = some (.int .u8 (b.t : Int)) ∧ X.cell? ⟨q, 3, none⟩ = some (.int .i32 b.n) ∧ X.cell? ⟨q, 4, none⟩ = some (.int .i64 b.v) ∧ X.cell? ⟨q, 5, none⟩ = some (.slice B m d)
theorem SB.keep {p q : Nat} {a b : Kx} {A B : Option Addr} {n m c d : Nat} {X Y : World} (h : SB p q a b A B n m c d X) (k : Below X.heap.size X Y) : SB p q a b A B n m c d Y := by
  obtain ⟨x0, x1, x2, x3, x4, x5, y0, y1, y2, y3, y4, y5⟩ := h
  exact ⟨(k.cell (g_lt x0)).trans x0, (k.cell (g_lt x1)).trans x1, (k.cell (g_lt x2)).trans x2, (k.cell (g_lt x3)).trans x3, (k.cell (g_lt x4)).trans x4, (k.cell (g_lt x5)).trans x5, (k.cell (g_lt y0)).trans y0, (k.cell (g_lt y1)).trans y1, (k.cell (g_lt y2)).trans y2, (k.cell (g_lt y3)).trans y3, (k.cell (g_lt y4)).trans y4, (k.cell (g_lt y5)).trans y5⟩
abbrev g2V (o : Int) (A : Option Addr) (c : Nat) : Value := .agg #[.int .u8 5, .int .u8 o, .int .u8 0, .int .i32 0, .int .i64 0, .slice A 2 c]
abbrev g1V (A : Option Addr) (c : Nat) : Value := .agg #[.int .u8 4, .int .u8 26, .int .u8 0, .int .i32 0, .int .i64 0, .slice A 1 c]
abbrev kV6 (e : Kx) (A : Option Addr) (n c : Nat) : Value := .agg #[.int .u8 (e.k : Int), .int .u8 (e.o : Int), .int .u8 (e.t : Int), .int .i32 e.n, .int .i64 e.v, .slice A n c]
def opsM1 : Array Oper := #[{ dst := some 19, op := Op.load 45 (Operand.tmp 4), type := 45, pos := "outright.go:150", after := #[], guard := none }, { dst := some 20, op := Op.load 45 (Operand.tmp 5), type := 45, pos := "outright.go:150", after := #[], guard := none }, { dst := some 21, op := Op.call { callee := Callee.value (Operand.func 32), args := #[Operand.const (Value.int IntKind.u8 20), Operand.tmp 19, Operand.tmp 20], argTypes := #[43, 45, 45] }, type := 45, pos := "outright.go:150", after := #[{ on := 0, ground := Ground.data }, { on := 1, ground := Ground.data }], guard := none }, { dst := some 22, op := Op.load 45 (Operand.tmp 4), type := 45, pos := "outright.go:150", after := #[], guard := none }, { dst := some 23, op := Op.load 45 (Operand.tmp 5), type := 45, pos := "outright.go:150", after := #[], guard := none }, { dst := some 24, op := Op.call { callee := Callee.value (Operand.func 32), args := #[Operand.const (Value.int IntKind.u8 21), Operand.tmp 22, Operand.tmp 23], argTypes := #[43, 45, 45] }, type := 45, pos := "outright.go:150", after := #[{ on := 3, ground := Ground.data }, { on := 4, ground := Ground.data }, { on := 2, ground := Ground.chain }], guard := none }, { dst := some 7, op := Op.alloc 45, type := 0, pos := "outright.go:150", after := #[], guard := none }, { dst := some 8, op := Op.alloc 45, type := 0, pos := "outright.go:150", after := #[], guard := none }, { dst := none, op := Op.store 45 (Operand.tmp 7) (Operand.tmp 21), type := 0, pos := "outright.go:150", after := #[{ on := 6, ground := Ground.data }, { on := 2, ground := Ground.data }, { on := 5, ground := Ground.chain }, { on := 0, ground := Ground.phase }, { on := 1, ground := Ground.phase }, { on := 2, ground := Ground.phase }, { on := 3, ground := Ground.textOnly Departure.lateStores }, { on := 4, ground := Ground.textOnly Departure.lateStores }, { on := 5, ground := Ground.textOnly Departure.lateStoresUnsure }, { on := 6, ground := Ground.phase }, { on := 7, ground := Ground.phase }], guard := none }, { dst := none, op := Op.store 45 (Operand.tmp 8) (Operand.tmp 24), type := 0, pos := "outright.go:150", after := #[{ on := 7, ground := Ground.data }, { on := 5, ground := Ground.data }, { on := 8, ground := Ground.chain }, { on := 0, ground := Ground.phase }, { on := 1, ground := Ground.phase }, { on := 2, ground := Ground.phase }, { on := 3, ground := Ground.phase }, { on := 4, ground := Ground.phase }, { on := 5, ground := Ground.phase }, { on := 6, ground := Ground.phase }, { on := 7, ground := Ground.phase }, { on := 8, ground := Ground.phase }], guard := none }]
set_option maxRecDepth 100000 in
set_option maxHeartbeats 16000000 in
theorem region1 (w : World) (p q : Nat) (a b : Kx) (A B : Option Addr) (n m c d : Nat) {x0 x1 x2 x3 x6 x9 x10 x11 x12 x13 x14 x15 x16 x17 x18 x25 x26 x27 x28 x29 x30 x31 x32 x33 x34 x35 x36 x37 x38 x39 x40 x41 x42 x43 x44 x45 x46 x47 x48 x49 x50 x51 x52 x53 x54 x55 x56 x57 x58 x59 x60 x61 x62 x63 x64 x65 x66 x67 x68 x69 x70 x71 x72 x73 x74 x75 x76 x77 x78 x79 x80 x81 x82 x83 x84 x85 x86 x87 x88 x89 x90 x91 x92 x93 x94 x95 x96 x97 x98 x99 x100 x101 x102 x103 x104 x105 x106 x107 x108 x109 x110 x111 x112 x113 x114 x115 x116 x117 x118 x119 x120 x121 x122 x123 x124 : Value} (hn : a.l.length = n) (hm : b.l.length = m) (oka : OKk a) (okb : OKk b) (Ra : KrR w A c a.l) (Rb : KrR w B d b.l) (hS : SB p q a b A B n m c d w)
    {Q : Exit → Act → World → Prop} (hP : ∀ c a d v w, Q (.panic c) (Act.put a d v) w → Q (.panic c) a w)
    (hQ : ∀ (f g : Nat) (A1 : Option Addr) (c1 : Nat) (A2 : Option Addr) (c2 : Nat) (Y : World), Below w.heap.size w Y → w.heap.size ≤ f → w.heap.size ≤ g → (∃ N c, BoxS Y f 45 (kxC (k2 20 a b) N 2 c) ∧ KrR Y N c [a, b]) → (∃ N c, BoxS Y g 45 (kxC (k2 21 a b) N 2 c) ∧ KrR Y N c [a, b]) → Q .normal ({ tmps := #[x0, x1, x2, x3, .pointer (some ⟨p, 0, none⟩), .pointer (some ⟨q, 0, none⟩), x6, .pointer (some ⟨f, 0, none⟩), .pointer (some ⟨g, 0, none⟩), x9, x10, x11, x12, x13, x14, x15, x16, x17, x18, .agg #[.int .u8 (a.k : Int), .int .u8 (a.o : Int), .int .u8 (a.t : Int), .int .i32 a.n, .int .i64 a.v, .slice A n c], .agg #[.int .u8 (b.k : Int), .int .u8 (b.o : Int), .int .u8 (b.t : Int), .int .i32 b.n, .int .i64 b.v, .slice B m d], .agg #[.int .u8 5, .int .u8 20, .int .u8 0, .int .i32 0, .int .i64 0, .slice A1 2 c1], .agg #[.int .u8 (a.k : Int), .int .u8 (a.o : Int), .int .u8 (a.t : Int), .int .i32 a.n, .int .i64 a.v, .slice A n c], .agg #[.int .u8 (b.k : Int), .int .u8 (b.o : Int), .int .u8 (b.t : Int), .int .i32 b.n, .int .i64 b.v, .slice B m d], .agg #[.int .u8 5, .int .u8 21, .int .u8 0, .int .i32 0, .int .i64 0, .slice A2 2 c2], x25, x26, x27, x28, x29, x30, x31, x32, x33, x34, x35, x36, x37, x38, x39, x40, x41, x42, x43, x44, x45, x46, x47, x48, x49, x50, x51, x52, x53, x54, x55, x56, x57, x58, x59, x60, x61, x62, x63, x64, x65, x66, x67, x68, x69, x70, x71, x72, x73, x74, x75, x76, x77, x78, x79, x80, x81, x82, x83, x84, x85, x86, x87, x88, x89, x90, x91, x92, x93, x94, x95, x96, x97, x98, x99, x100, x101, x102, x103, x104, x105, x106, x107, x108, x109, x110, x111, x112, x113, x114, x115, x116, x117, x118, x119, x120, x121, x122, x123, x124], defers := [] } : Act) Y) :
    (Code.region 1 #[{ dst := some 19, op := Op.load 45 (Operand.tmp 4), type := 45, pos := "outright.go:150", after := #[], guard := none }, { dst := some 20, op := Op.load 45 (Operand.tmp 5), type := 45, pos := "outright.go:150", after := #[], guard := none }, { dst := some 21, op := Op.call { callee := Callee.value (Operand.func 32), args := #[Operand.const (Value.int IntKind.u8 20), Operand.tmp 19, Operand.tmp 20], argTypes := #[43, 45, 45] }, type := 45, pos := "outright.go:150", after := #[{ on := 0, ground := Ground.data }, { on := 1, ground := Ground.data }], guard := none }, { dst := some 22, op := Op.load 45 (Operand.tmp 4), type := 45, pos := "outright.go:150", after := #[], guard := none }, { dst := some 23, op := Op.load 45 (Operand.tmp 5), type := 45, pos := "outright.go:150", after := #[], guard := none }, { dst := some 24, op := Op.call { callee := Callee.value (Operand.func 32), args := #[Operand.const (Value.int IntKind.u8 21), Operand.tmp 22, Operand.tmp 23], argTypes := #[43, 45, 45] }, type := 45, pos := "outright.go:150", after := #[{ on := 3, ground := Ground.data }, { on := 4, ground := Ground.data }, { on := 2, ground := Ground.chain }], guard := none }, { dst := some 7, op := Op.alloc 45, type := 0, pos := "outright.go:150", after := #[], guard := none }, { dst := some 8, op := Op.alloc 45, type := 0, pos := "outright.go:150", after := #[], guard := none }, { dst := none, op := Op.store 45 (Operand.tmp 7) (Operand.tmp 21), type := 0, pos := "outright.go:150", after := #[{ on := 6, ground := Ground.data }, { on := 2, ground := Ground.data }, { on := 5, ground := Ground.chain }, { on := 0, ground := Ground.phase }, { on := 1, ground := Ground.phase }, { on := 2, ground := Ground.phase }, { on := 3, ground := Ground.textOnly Departure.lateStores }, { on := 4, ground := Ground.textOnly Departure.lateStores }, { on := 5, ground := Ground.textOnly Departure.lateStoresUnsure }, { on := 6, ground := Ground.phase }, { on := 7, ground := Ground.phase }], guard := none }, { dst := none, op := Op.store 45 (Operand.tmp 8) (Operand.tmp 24), type := 0, pos := "outright.go:150", after := #[{ on := 7, ground := Ground.data }, { on := 5, ground := Ground.data }, { on := 8, ground := Ground.chain }, { on := 0, ground := Ground.phase }, { on := 1, ground := Ground.phase }, { on := 2, ground := Ground.phase }, { on := 3, ground := Ground.phase }, { on := 4, ground := Ground.phase }, { on := 5, ground := Ground.phase }, { on := 6, ground := Ground.phase }, { on := 7, ground := Ground.phase }, { on := 8, ground := Ground.phase }], guard := none }] true).wp Tryd.prog Q ({ tmps := #[x0, x1, x2, x3, .pointer (some ⟨p, 0, none⟩), .pointer (some ⟨q, 0, none⟩), x6, undef, undef, x9, x10, x11, x12, x13, x14, x15, x16, x17, x18, undef, undef, undef, undef, undef, undef, x25, x26, x27, x28, x29, x30, x31, x32, x33, x34, x35, x36, x37, x38, x39, x40, x41, x42, x43, x44, x45, x46, x47, x48, x49, x50, x51, x52, x53, x54, x55, x56, x57, x58, x59, x60, x61, x62, x63, x64, x65, x66, x67, x68, x69, x70, x71, x72, x73, x74, x75, x76, x77, x78, x79, x80, x81, x82, x83, x84, x85, x86, x87, x88, x89, x90, x91, x92, x93, x94, x95, x96, x97, x98, x99, x100, x101, x102, x103, x104, x105, x106, x107, x108, x109, x110, x111, x112, x113, x114, x115, x116, x117, x118, x119, x120, x121, x122, x123, x124], defers := [] } : Act) w := by
  have HS := Lib.hid fun X (h : Below w.heap.size w X) => hS.keep h
  have HA := Lib.hid fun X o1 o2 (h : FlX w X o1 o2) => h.base Ra
  have HB := Lib.hid fun X o1 o2 (h : FlX w X o1 o2) => h.base Rb
  have D1 : Hid (∀ X o1 o2 , FlX w X o1 o2 → Calls Tryd.prog 32 #[.int .u8 20, .agg #[.int .u8 (a.k : Int), .int .u8 (a.o : Int), .int .u8 (a.t : Int), .int .i32 a.n, .int .i64 a.v, .slice A n c], .agg #[.int .u8 (b.k : Int), .int .u8 (b.o : Int), .int .u8 (b.t : Int), .int .i32 b.n, .int .i64 b.v, .slice B m d]] X fun e X' => ∃ A1 c1, e = .returned (.agg #[.int .u8 5, .int .u8 20, .int .u8 0, .int .i32 0, .int .i64 0, .slice A1 2 c1]) ∧ KrN X' (NN o1 o2) A1 c1 [a, b] ∧ Below X.heap.size X X') := Lib.hid fun X o1 o2  h  => by
    have := mtwo_N (NN o1 o2) 20 a b A B n m c d X hn hm (HA.out _ _ _ h) (HB.out _ _ _ h) oka okb
    exact this.mono fun e X' ⟨A', c', h1, h2, h3⟩ => ⟨A', c', h1, h.call h2, h3⟩
  have D2 : Hid (∀ X o1 o2 , FlX w X o1 o2 → Calls Tryd.prog 32 #[.int .u8 21, .agg #[.int .u8 (a.k : Int), .int .u8 (a.o : Int), .int .u8 (a.t : Int), .int .i32 a.n, .int .i64 a.v, .slice A n c], .agg #[.int .u8 (b.k : Int), .int .u8 (b.o : Int), .int .u8 (b.t : Int), .int .i32 b.n, .int .i64 b.v, .slice B m d]] X fun e X' => ∃ A2 c2, e = .returned (.agg #[.int .u8 5, .int .u8 21, .int .u8 0, .int .i32 0, .int .i64 0, .slice A2 2 c2]) ∧ KrN X' (NN o1 o2) A2 c2 [a, b] ∧ Below X.heap.size X X') := Lib.hid fun X o1 o2  h  => by
    have := mtwo_N (NN o1 o2) 21 a b A B n m c d X hn hm (HA.out _ _ _ h) (HB.out _ _ _ h) oka okb
    exact this.mono fun e X' ⟨A', c', h1, h2, h3⟩ => ⟨A', c', h1, h.call h2, h3⟩
  clear hS Ra Rb hn hm oka okb
  have s211 : ∀ (f : Nat) (g : Nat) (A1 : Option Addr) (c1 : Nat) (A2 : Option Addr) (c2 : Nat) (X : World), Hid (FlX w X (some f) (some g)) → Hid (KrN X (NN (some f) (some g)) A1 c1 [a, b]) → Hid (KrN X (NN (some f) (some g)) A2 c2 [a, b]) → SB p q a b A B n m c d X → wpAnyH Tryd.prog .any opsM1 Q (SB p q a b A B n m c d) 2 #[true, true, true, true, true, true, true, true, false, false] ({ tmps := #[x0, x1, x2, x3, .pointer (some ⟨p, 0, none⟩), .pointer (some ⟨q, 0, none⟩), x6, .pointer (some ⟨f, 0, none⟩), .pointer (some ⟨g, 0, none⟩), x9, x10, x11, x12, x13, x14, x15, x16, x17, x18, .agg #[.int .u8 (a.k : Int), .int .u8 (a.o : Int), .int .u8 (a.t : Int), .int .i32 a.n, .int .i64 a.v, .slice A n c], .agg #[.int .u8 (b.k : Int), .int .u8 (b.o : Int), .int .u8 (b.t : Int), .int .i32 b.n, .int .i64 b.v, .slice B m d], .agg #[.int .u8 5, .int .u8 20, .int .u8 0, .int .i32 0, .int .i64 0, .slice A1 2 c1], .agg #[.int .u8 (a.k : Int), .int .u8 (a.o : Int), .int .u8 (a.t : Int), .int .i32 a.n, .int .i64 a.v, .slice A n c], .agg #[.int .u8 (b.k : Int), .int .u8 (b.o : Int), .int .u8 (b.t : Int), .int .i32 b.n, .int .i64 b.v, .slice B m d], .agg #[.int .u8 5, .int .u8 21, .int .u8 0, .int .i32 0, .int .i64 0, .slice A2 2 c2], x25, x26, x27, x28, x29, x30, x31, x32, x33, x34, x35, x36, x37, x38, x39, x40, x41, x42, x43, x44, x45, x46, x47, x48, x49, x50, x51, x52, x53, x54, x55, x56, x57, x58, x59, x60, x61, x62, x63, x64, x65, x66, x67, x68, x69, x70, x71, x72, x73, x74, x75, x76, x77, x78, x79, x80, x81, x82, x83, x84, x85, x86, x87, x88, x89, x90, x91, x92, x93, x94, x95, x96, x97, x98, x99, x100, x101, x102, x103, x104, x105, x106, x107, x108, x109, x110, x111, x112, x113, x114, x115, x116, x117, x118, x119, x120, x121, x122, x123, x124], defers := [] } : Act) X := by
    intro f g A1 c1 A2 c2 X F r1 r2 hHeld
    obtain ⟨hf, bf⟩ := F.out.a9 f rfl
    obtain ⟨hg, bg⟩ := F.out.a10 g rfl
    have hfg : g ≠ f := fun e => F.out.ne f rfl (by rw [e])
    have hx1 := kr_put r1.out (.inl rfl) (.int .u8 5) (.int .u8 20) (.int .u8 0) (.int .i32 0) (.int .i64 0) (.slice A1 2 c1)
    have hx2 := kr_put r2.out (.inl rfl) (.int .u8 5) (.int .u8 20) (.int .u8 0) (.int .i32 0) (.int .i64 0) (.slice A1 2 c1)
    unfold kz6 at bf bg
    have b1 := box6_all (.int .u8 5) (.int .u8 20) (.int .u8 0) (.int .i32 0) (.int .i64 0) (.slice A1 2 c1) bf
    have bg1 := (fr_set6 X f (.int .u8 5) (.int .u8 20) (.int .u8 0) (.int .i32 0) (.int .i64 0) (.slice A1 2 c1)).box bg hfg
    have w1 := bset6 F.out.b hf (.int .u8 5) (.int .u8 20) (.int .u8 0) (.int .i32 0) (.int .i64 0) (.slice A1 2 c1)
    obtain ⟨p0, p1, p2, p3, p4, p5⟩ := box6 bf
    obtain ⟨q0, q1, q2, q3, q4, q5⟩ := box6f bf
    refine wpAnyH_ready (rs := [8]) (by kernel_rfl) (by simp) ?_
    refine AllReadyH.cons (o := { dst := none, op := Op.store 45 (Operand.tmp 7) (Operand.tmp 21), type := 0, pos := "outright.go:150", after := #[{ on := 6, ground := Ground.data }, { on := 2, ground := Ground.data }, { on := 5, ground := Ground.chain }, { on := 0, ground := Ground.phase }, { on := 1, ground := Ground.phase }, { on := 2, ground := Ground.phase }, { on := 3, ground := Ground.textOnly Departure.lateStores }, { on := 4, ground := Ground.textOnly Departure.lateStores }, { on := 5, ground := Ground.textOnly Departure.lateStoresUnsure }, { on := 6, ground := Ground.phase }, { on := 7, ground := Ground.phase }], guard := none }) rfl (fun K hK => ?_) AllReadyH.nil
    go_simp
    refine hK.out _ _ (HS.out _ w1) (fun hHeld2 => ?_)
    clear hK K p0 p1 p2 p3 p4 p5 q0 q1 q2 q3 q4 q5 bf bg F hHeld hHeld2
    try simp only [Act.put, List.setIfInBounds_toArray, List.set_cons_zero, List.set_cons_succ]
    change wpAnyH _ _ _ _ _ _ _ _ (set6 X f (.int .u8 5) (.int .u8 20) (.int .u8 0) (.int .i32 0) (.int .i64 0) (.slice A1 2 c1))
    generalize set6 X f (.int .u8 5) (.int .u8 20) (.int .u8 0) (.int .i32 0) (.int .i64 0) (.slice A1 2 c1) = Y at *
    have hy1 := kr_put hx1 (.inr rfl) (.int .u8 5) (.int .u8 21) (.int .u8 0) (.int .i32 0) (.int .i64 0) (.slice A2 2 c2)
    have hy2 := kr_put hx2 (.inr rfl) (.int .u8 5) (.int .u8 21) (.int .u8 0) (.int .i32 0) (.int .i64 0) (.slice A2 2 c2)
    have c1_ := (fr_set6 Y g (.int .u8 5) (.int .u8 21) (.int .u8 0) (.int .i32 0) (.int .i64 0) (.slice A2 2 c2)).box b1 (Ne.symm hfg)
    have c2_ := box6_all (.int .u8 5) (.int .u8 21) (.int .u8 0) (.int .i32 0) (.int .i64 0) (.slice A2 2 c2) bg1
    have w2 := bset6 w1 hg (.int .u8 5) (.int .u8 21) (.int .u8 0) (.int .i32 0) (.int .i64 0) (.slice A2 2 c2)
    obtain ⟨p0, p1, p2, p3, p4, p5⟩ := box6 bg1
    obtain ⟨q0, q1, q2, q3, q4, q5⟩ := box6f bg1
    refine wpAnyH_ready (rs := [9]) (by kernel_rfl) (by simp) ?_
    refine AllReadyH.cons (o := { dst := none, op := Op.store 45 (Operand.tmp 8) (Operand.tmp 24), type := 0, pos := "outright.go:150", after := #[{ on := 7, ground := Ground.data }, { on := 5, ground := Ground.data }, { on := 8, ground := Ground.chain }, { on := 0, ground := Ground.phase }, { on := 1, ground := Ground.phase }, { on := 2, ground := Ground.phase }, { on := 3, ground := Ground.phase }, { on := 4, ground := Ground.phase }, { on := 5, ground := Ground.phase }, { on := 6, ground := Ground.phase }, { on := 7, ground := Ground.phase }, { on := 8, ground := Ground.phase }], guard := none }) rfl (fun K hK => ?_) AllReadyH.nil
    go_simp
    refine hK.out _ _ (HS.out _ w2) (fun hHeld2 => ?_)
    try simp only [Act.put, List.setIfInBounds_toArray, List.set_cons_zero, List.set_cons_succ]
    refine wpAnyH_done (by kernel_rfl) ?_ _
    exact hQ f g A1 c1 A2 c2 _ w2 hf hg ⟨A1, c1, c1_, hy1.tr⟩ ⟨A2, c2, c2_, hy2.tr⟩
  have s210 : ∀ (f : Nat) (A1 : Option Addr) (c1 : Nat) (A2 : Option Addr) (c2 : Nat) (X : World), Hid (FlX w X (some f) none) → Hid (KrN X (NN (some f) none) A1 c1 [a, b]) → Hid (KrN X (NN (some f) none) A2 c2 [a, b]) → SB p q a b A B n m c d X → wpAnyH Tryd.prog .any opsM1 Q (SB p q a b A B n m c d) 3 #[true, true, true, true, true, true, true, false, false, false] ({ tmps := #[x0, x1, x2, x3, .pointer (some ⟨p, 0, none⟩), .pointer (some ⟨q, 0, none⟩), x6, .pointer (some ⟨f, 0, none⟩), undef, x9, x10, x11, x12, x13, x14, x15, x16, x17, x18, .agg #[.int .u8 (a.k : Int), .int .u8 (a.o : Int), .int .u8 (a.t : Int), .int .i32 a.n, .int .i64 a.v, .slice A n c], .agg #[.int .u8 (b.k : Int), .int .u8 (b.o : Int), .int .u8 (b.t : Int), .int .i32 b.n, .int .i64 b.v, .slice B m d], .agg #[.int .u8 5, .int .u8 20, .int .u8 0, .int .i32 0, .int .i64 0, .slice A1 2 c1], .agg #[.int .u8 (a.k : Int), .int .u8 (a.o : Int), .int .u8 (a.t : Int), .int .i32 a.n, .int .i64 a.v, .slice A n c], .agg #[.int .u8 (b.k : Int), .int .u8 (b.o : Int), .int .u8 (b.t : Int), .int .i32 b.n, .int .i64 b.v, .slice B m d], .agg #[.int .u8 5, .int .u8 21, .int .u8 0, .int .i32 0, .int .i64 0, .slice A2 2 c2], x25, x26, x27, x28, x29, x30, x31, x32, x33, x34, x35, x36, x37, x38, x39, x40, x41, x42, x43, x44, x45, x46, x47, x48, x49, x50, x51, x52, x53, x54, x55, x56, x57, x58, x59, x60, x61, x62, x63, x64, x65, x66, x67, x68, x69, x70, x71, x72, x73, x74, x75, x76, x77, x78, x79, x80, x81, x82, x83, x84, x85, x86, x87, x88, x89, x90, x91, x92, x93, x94, x95, x96, x97, x98, x99, x100, x101, x102, x103, x104, x105, x106, x107, x108, x109, x110, x111, x112, x113, x114, x115, x116, x117, x118, x119, x120, x121, x122, x123, x124], defers := [] } : Act) X := by
    intro f A1 c1 A2 c2 X F r1 r2 hHeld
    refine wpAnyH_ready (rs := [7]) (by kernel_rfl) (by simp) ?_
    refine AllReadyH.cons (o := { dst := some 8, op := Op.alloc 45, type := 0, pos := "outright.go:150", after := #[], guard := none }) rfl (fun K hK => ?_) ?_
    · go_simp
      have F2 := Lib.hid F.out.al10
      have hS2 := hHeld.keep (bal (b0 X) (.cells kz6 45))
      refine hK.out _ _ hS2 (fun hHeld2 => ?_)
      try simp only [Act.put, List.setIfInBounds_toArray, List.set_cons_zero, List.set_cons_succ]
      exact s211 f X.heap.size A1 c1 A2 c2 _ F2 (Lib.hid (kr_10 r1.out _)) (Lib.hid (kr_10 r2.out _)) hS2
    exact AllReadyH.nil
  have s201 : ∀ (g : Nat) (A1 : Option Addr) (c1 : Nat) (A2 : Option Addr) (c2 : Nat) (X : World), Hid (FlX w X none (some g)) → Hid (KrN X (NN none (some g)) A1 c1 [a, b]) → Hid (KrN X (NN none (some g)) A2 c2 [a, b]) → SB p q a b A B n m c d X → wpAnyH Tryd.prog .any opsM1 Q (SB p q a b A B n m c d) 3 #[true, true, true, true, true, true, false, true, false, false] ({ tmps := #[x0, x1, x2, x3, .pointer (some ⟨p, 0, none⟩), .pointer (some ⟨q, 0, none⟩), x6, undef, .pointer (some ⟨g, 0, none⟩), x9, x10, x11, x12, x13, x14, x15, x16, x17, x18, .agg #[.int .u8 (a.k : Int), .int .u8 (a.o : Int), .int .u8 (a.t : Int), .int .i32 a.n, .int .i64 a.v, .slice A n c], .agg #[.int .u8 (b.k : Int), .int .u8 (b.o : Int), .int .u8 (b.t : Int), .int .i32 b.n, .int .i64 b.v, .slice B m d], .agg #[.int .u8 5, .int .u8 20, .int .u8 0, .int .i32 0, .int .i64 0, .slice A1 2 c1], .agg #[.int .u8 (a.k : Int), .int .u8 (a.o : Int), .int .u8 (a.t : Int), .int .i32 a.n, .int .i64 a.v, .slice A n c], .agg #[.int .u8 (b.k : Int), .int .u8 (b.o : Int), .int .u8 (b.t : Int), .int .i32 b.n, .int .i64 b.v, .slice B m d], .agg #[.int .u8 5, .int .u8 21, .int .u8 0, .int .i32 0, .int .i64 0, .slice A2 2 c2], x25, x26, x27, x28, x29, x30, x31, x32, x33, x34, x35, x36, x37, x38, x39, x40, x41, x42, x43, x44, x45, x46, x47, x48, x49, x50, x51, x52, x53, x54, x55, x56, x57, x58, x59, x60, x61, x62, x63, x64, x65, x66, x67, x68, x69, x70, x71, x72, x73, x74, x75, x76, x77, x78, x79, x80, x81, x82, x83, x84, x85, x86, x87, x88, x89, x90, x91, x92, x93, x94, x95, x96, x97, x98, x99, x100, x101, x102, x103, x104, x105, x106, x107, x108, x109, x110, x111, x112, x113, x114, x115, x116, x117, x118, x119, x120, x121, x122, x123, x124], defers := [] } : Act) X := by
    intro g A1 c1 A2 c2 X F r1 r2 hHeld
    refine wpAnyH_ready (rs := [6]) (by kernel_rfl) (by simp) ?_
    refine AllReadyH.cons (o := { dst := some 7, op := Op.alloc 45, type := 0, pos := "outright.go:150", after := #[], guard := none }) rfl (fun K hK => ?_) ?_
    · go_simp
      have F2 := Lib.hid F.out.al9
      have hS2 := hHeld.keep (bal (b0 X) (.cells kz6 45))
      refine hK.out _ _ hS2 (fun hHeld2 => ?_)
      try simp only [Act.put, List.setIfInBounds_toArray, List.set_cons_zero, List.set_cons_succ]
      exact s211 X.heap.size g A1 c1 A2 c2 _ F2 (Lib.hid (kr_9 r1.out _)) (Lib.hid (kr_9 r2.out _)) hS2
    exact AllReadyH.nil
  have s200 : ∀  (A1 : Option Addr) (c1 : Nat) (A2 : Option Addr) (c2 : Nat) (X : World), Hid (FlX w X none none) → Hid (KrN X (NN none none) A1 c1 [a, b]) → Hid (KrN X (NN none none) A2 c2 [a, b]) → SB p q a b A B n m c d X → wpAnyH Tryd.prog .any opsM1 Q (SB p q a b A B n m c d) 4 #[true, true, true, true, true, true, false, false, false, false] ({ tmps := #[x0, x1, x2, x3, .pointer (some ⟨p, 0, none⟩), .pointer (some ⟨q, 0, none⟩), x6, undef, undef, x9, x10, x11, x12, x13, x14, x15, x16, x17, x18, .agg #[.int .u8 (a.k : Int), .int .u8 (a.o : Int), .int .u8 (a.t : Int), .int .i32 a.n, .int .i64 a.v, .slice A n c], .agg #[.int .u8 (b.k : Int), .int .u8 (b.o : Int), .int .u8 (b.t : Int), .int .i32 b.n, .int .i64 b.v, .slice B m d], .agg #[.int .u8 5, .int .u8 20, .int .u8 0, .int .i32 0, .int .i64 0, .slice A1 2 c1], .agg #[.int .u8 (a.k : Int), .int .u8 (a.o : Int), .int .u8 (a.t : Int), .int .i32 a.n, .int .i64 a.v, .slice A n c], .agg #[.int .u8 (b.k : Int), .int .u8 (b.o : Int), .int .u8 (b.t : Int), .int .i32 b.n, .int .i64 b.v, .slice B m d], .agg #[.int .u8 5, .int .u8 21, .int .u8 0, .int .i32 0, .int .i64 0, .slice A2 2 c2], x25, x26, x27, x28, x29, x30, x31, x32, x33, x34, x35, x36, x37, x38, x39, x40, x41, x42, x43, x44, x45, x46, x47, x48, x49, x50, x51, x52, x53, x54, x55, x56, x57, x58, x59, x60, x61, x62, x63, x64, x65, x66, x67, x68, x69, x70, x71, x72, x73, x74, x75, x76, x77, x78, x79, x80, x81, x82, x83, x84, x85, x86, x87, x88, x89, x90, x91, x92, x93, x94, x95, x96, x97, x98, x99, x100, x101, x102, x103, x104, x105, x106, x107, x108, x109, x110, x111, x112, x113, x114, x115, x116, x117, x118, x119, x120, x121, x122, x123, x124], defers := [] } : Act) X := by
    intro  A1 c1 A2 c2 X F r1 r2 hHeld
    refine wpAnyH_ready (rs := [6, 7]) (by kernel_rfl) (by simp) ?_
    refine AllReadyH.cons (o := { dst := some 7, op := Op.alloc 45, type := 0, pos := "outright.go:150", after := #[], guard := none }) rfl (fun K hK => ?_) ?_
    · go_simp
      have F2 := Lib.hid F.out.al9
      have hS2 := hHeld.keep (bal (b0 X) (.cells kz6 45))
      refine hK.out _ _ hS2 (fun hHeld2 => ?_)
      try simp only [Act.put, List.setIfInBounds_toArray, List.set_cons_zero, List.set_cons_succ]
      exact s210 X.heap.size A1 c1 A2 c2 _ F2 (Lib.hid (kr_9 r1.out _)) (Lib.hid (kr_9 r2.out _)) hS2
    refine AllReadyH.cons (o := { dst := some 8, op := Op.alloc 45, type := 0, pos := "outright.go:150", after := #[], guard := none }) rfl (fun K hK => ?_) ?_
    · go_simp
      have F2 := Lib.hid F.out.al10
      have hS2 := hHeld.keep (bal (b0 X) (.cells kz6 45))
      refine hK.out _ _ hS2 (fun hHeld2 => ?_)
      try simp only [Act.put, List.setIfInBounds_toArray, List.set_cons_zero, List.set_cons_succ]
      exact s201 X.heap.size A1 c1 A2 c2 _ F2 (Lib.hid (kr_10 r1.out _)) (Lib.hid (kr_10 r2.out _)) hS2
    exact AllReadyH.nil
  have s111 : ∀ (f : Nat) (g : Nat) (A1 : Option Addr) (c1 : Nat) (X : World), Hid (FlX w X (some f) (some g)) → Hid (KrN X (NN (some f) (some g)) A1 c1 [a, b]) → SB p q a b A B n m c d X → wpAnyH Tryd.prog .any opsM1 Q (SB p q a b A B n m c d) 3 #[true, true, true, true, true, false, true, true, false, false] ({ tmps := #[x0, x1, x2, x3, .pointer (some ⟨p, 0, none⟩), .pointer (some ⟨q, 0, none⟩), x6, .pointer (some ⟨f, 0, none⟩), .pointer (some ⟨g, 0, none⟩), x9, x10, x11, x12, x13, x14, x15, x16, x17, x18, .agg #[.int .u8 (a.k : Int), .int .u8 (a.o : Int), .int .u8 (a.t : Int), .int .i32 a.n, .int .i64 a.v, .slice A n c], .agg #[.int .u8 (b.k : Int), .int .u8 (b.o : Int), .int .u8 (b.t : Int), .int .i32 b.n, .int .i64 b.v, .slice B m d], .agg #[.int .u8 5, .int .u8 20, .int .u8 0, .int .i32 0, .int .i64 0, .slice A1 2 c1], .agg #[.int .u8 (a.k : Int), .int .u8 (a.o : Int), .int .u8 (a.t : Int), .int .i32 a.n, .int .i64 a.v, .slice A n c], .agg #[.int .u8 (b.k : Int), .int .u8 (b.o : Int), .int .u8 (b.t : Int), .int .i32 b.n, .int .i64 b.v, .slice B m d], undef, x25, x26, x27, x28, x29, x30, x31, x32, x33, x34, x35, x36, x37, x38, x39, x40, x41, x42, x43, x44, x45, x46, x47, x48, x49, x50, x51, x52, x53, x54, x55, x56, x57, x58, x59, x60, x61, x62, x63, x64, x65, x66, x67, x68, x69, x70, x71, x72, x73, x74, x75, x76, x77, x78, x79, x80, x81, x82, x83, x84, x85, x86, x87, x88, x89, x90, x91, x92, x93, x94, x95, x96, x97, x98, x99, x100, x101, x102, x103, x104, x105, x106, x107, x108, x109, x110, x111, x112, x113, x114, x115, x116, x117, x118, x119, x120, x121, x122, x123, x124], defers := [] } : Act) X := by
    intro f g A1 c1 X F r1 hHeld
    refine wpAnyH_ready (rs := [5]) (by kernel_rfl) (by simp) ?_
    refine AllReadyH.cons (o := { dst := some 24, op := Op.call { callee := Callee.value (Operand.func 32), args := #[Operand.const (Value.int IntKind.u8 21), Operand.tmp 22, Operand.tmp 23], argTypes := #[43, 45, 45] }, type := 45, pos := "outright.go:150", after := #[{ on := 3, ground := Ground.data }, { on := 4, ground := Ground.data }, { on := 2, ground := Ground.chain }], guard := none }) rfl (fun K hK => ?_) ?_
    · go_simp
      go_at_call 32
      (with_reducible refine (D2.out _ _ _  F.out ).mono ?_)
      rintro e u ⟨A2, c2, rfl, t, bb⟩
      have F2 := Lib.hid (F.out.step bb)
      have hS2 := hHeld.keep bb
      refine hK.out _ _ hS2 (fun hHeld2 => ?_)
      try simp only [Act.put, List.setIfInBounds_toArray, List.set_cons_zero, List.set_cons_succ]
      exact s211 f g A1 c1 A2 c2 u F2 (Lib.hid (r1.out.keep bb)) (Lib.hid t) hS2
    exact AllReadyH.nil
  have s110 : ∀ (f : Nat) (A1 : Option Addr) (c1 : Nat) (X : World), Hid (FlX w X (some f) none) → Hid (KrN X (NN (some f) none) A1 c1 [a, b]) → SB p q a b A B n m c d X → wpAnyH Tryd.prog .any opsM1 Q (SB p q a b A B n m c d) 4 #[true, true, true, true, true, false, true, false, false, false] ({ tmps := #[x0, x1, x2, x3, .pointer (some ⟨p, 0, none⟩), .pointer (some ⟨q, 0, none⟩), x6, .pointer (some ⟨f, 0, none⟩), undef, x9, x10, x11, x12, x13, x14, x15, x16, x17, x18, .agg #[.int .u8 (a.k : Int), .int .u8 (a.o : Int), .int .u8 (a.t : Int), .int .i32 a.n, .int .i64 a.v, .slice A n c], .agg #[.int .u8 (b.k : Int), .int .u8 (b.o : Int), .int .u8 (b.t : Int), .int .i32 b.n, .int .i64 b.v, .slice B m d], .agg #[.int .u8 5, .int .u8 20, .int .u8 0, .int .i32 0, .int .i64 0, .slice A1 2 c1], .agg #[.int .u8 (a.k : Int), .int .u8 (a.o : Int), .int .u8 (a.t : Int), .int .i32 a.n, .int .i64 a.v, .slice A n c], .agg #[.int .u8 (b.k : Int), .int .u8 (b.o : Int), .int .u8 (b.t : Int), .int .i32 b.n, .int .i64 b.v, .slice B m d], undef, x25, x26, x27, x28, x29, x30, x31, x32, x33, x34, x35, x36, x37, x38, x39, x40, x41, x42, x43, x44, x45, x46, x47, x48, x49, x50, x51, x52, x53, x54, x55, x56, x57, x58, x59, x60, x61, x62, x63, x64, x65, x66, x67, x68, x69, x70, x71, x72, x73, x74, x75, x76, x77, x78, x79, x80, x81, x82, x83, x84, x85, x86, x87, x88, x89, x90, x91, x92, x93, x94, x95, x96, x97, x98, x99, x100, x101, x102, x103, x104, x105, x106, x107, x108, x109, x110, x111, x112, x113, x114, x115, x116, x117, x118, x119, x120, x121, x122, x123, x124], defers := [] } : Act) X := by
    intro f A1 c1 X F r1 hHeld
    refine wpAnyH_ready (rs := [5, 7]) (by kernel_rfl) (by simp) ?_
    refine AllReadyH.cons (o := { dst := some 24, op := Op.call { callee := Callee.value (Operand.func 32), args := #[Operand.const (Value.int IntKind.u8 21), Operand.tmp 22, Operand.tmp 23], argTypes := #[43, 45, 45] }, type := 45, pos := "outright.go:150", after := #[{ on := 3, ground := Ground.data }, { on := 4, ground := Ground.data }, { on := 2, ground := Ground.chain }], guard := none }) rfl (fun K hK => ?_) ?_
    · go_simp
      go_at_call 32
      (with_reducible refine (D2.out _ _ _  F.out ).mono ?_)
      rintro e u ⟨A2, c2, rfl, t, bb⟩
      have F2 := Lib.hid (F.out.step bb)
      have hS2 := hHeld.keep bb
      refine hK.out _ _ hS2 (fun hHeld2 => ?_)
      try simp only [Act.put, List.setIfInBounds_toArray, List.set_cons_zero, List.set_cons_succ]
      exact s210 f A1 c1 A2 c2 u F2 (Lib.hid (r1.out.keep bb)) (Lib.hid t) hS2
    refine AllReadyH.cons (o := { dst := some 8, op := Op.alloc 45, type := 0, pos := "outright.go:150", after := #[], guard := none }) rfl (fun K hK => ?_) ?_
    · go_simp
      have F2 := Lib.hid F.out.al10
      have hS2 := hHeld.keep (bal (b0 X) (.cells kz6 45))
      refine hK.out _ _ hS2 (fun hHeld2 => ?_)
      try simp only [Act.put, List.setIfInBounds_toArray, List.set_cons_zero, List.set_cons_succ]
      exact s111 f X.heap.size A1 c1 _ F2 (Lib.hid (kr_10 r1.out _)) hS2
    exact AllReadyH.nil
  have s101 : ∀ (g : Nat) (A1 : Option Addr) (c1 : Nat) (X : World), Hid (FlX w X none (some g)) → Hid (KrN X (NN none (some g)) A1 c1 [a, b]) → SB p q a b A B n m c d X → wpAnyH Tryd.prog .any opsM1 Q (SB p q a b A B n m c d) 4 #[true, true, true, true, true, false, false, true, false, false] ({ tmps := #[x0, x1, x2, x3, .pointer (some ⟨p, 0, none⟩), .pointer (some ⟨q, 0, none⟩), x6, undef, .pointer (some ⟨g, 0, none⟩), x9, x10, x11, x12, x13, x14, x15, x16, x17, x18, .agg #[.int .u8 (a.k : Int), .int .u8 (a.o : Int), .int .u8 (a.t : Int), .int .i32 a.n, .int .i64 a.v, .slice A n c], .agg #[.int .u8 (b.k : Int), .int .u8 (b.o : Int), .int .u8 (b.t : Int), .int .i32 b.n, .int .i64 b.v, .slice B m d], .agg #[.int .u8 5, .int .u8 20, .int .u8 0, .int .i32 0, .int .i64 0, .slice A1 2 c1], .agg #[.int .u8 (a.k : Int), .int .u8 (a.o : Int), .int .u8 (a.t : Int), .int .i32 a.n, .int .i64 a.v, .slice A n c], .agg #[.int .u8 (b.k : Int), .int .u8 (b.o : Int), .int .u8 (b.t : Int), .int .i32 b.n, .int .i64 b.v, .slice B m d], undef, x25, x26, x27, x28, x29, x30, x31, x32, x33, x34, x35, x36, x37, x38, x39, x40, x41, x42, x43, x44, x45, x46, x47, x48, x49, x50, x51, x52, x53, x54, x55, x56, x57, x58, x59, x60, x61, x62, x63, x64, x65, x66, x67, x68, x69, x70, x71, x72, x73, x74, x75, x76, x77, x78, x79, x80, x81, x82, x83, x84, x85, x86, x87, x88, x89, x90, x91, x92, x93, x94, x95, x96, x97, x98, x99, x100, x101, x102, x103, x104, x105, x106, x107, x108, x109, x110, x111, x112, x113, x114, x115, x116, x117, x118, x119, x120, x121, x122, x123, x124], defers := [] } : Act) X := by
    intro g A1 c1 X F r1 hHeld
    refine wpAnyH_ready (rs := [5, 6]) (by kernel_rfl) (by simp) ?_
    refine AllReadyH.cons (o := { dst := some 24, op := Op.call { callee := Callee.value (Operand.func 32), args := #[Operand.const (Value.int IntKind.u8 21), Operand.tmp 22, Operand.tmp 23], argTypes := #[43, 45, 45] }, type := 45, pos := "outright.go:150", after := #[{ on := 3, ground := Ground.data }, { on := 4, ground := Ground.data }, { on := 2, ground := Ground.chain }], guard := none }) rfl (fun K hK => ?_) ?_
    · go_simp
      go_at_call 32
      (with_reducible refine (D2.out _ _ _  F.out ).mono ?_)
      rintro e u ⟨A2, c2, rfl, t, bb⟩
      have F2 := Lib.hid (F.out.step bb)
      have hS2 := hHeld.keep bb
      refine hK.out _ _ hS2 (fun hHeld2 => ?_)
      try simp only [Act.put, List.setIfInBounds_toArray, List.set_cons_zero, List.set_cons_succ]
      exact s201 g A1 c1 A2 c2 u F2 (Lib.hid (r1.out.keep bb)) (Lib.hid t) hS2
    refine AllReadyH.cons (o := { dst := some 7, op := Op.alloc 45, type := 0, pos := "outright.go:150", after := #[], guard := none }) rfl (fun K hK => ?_) ?_
    · go_simp
      have F2 := Lib.hid F.out.al9
      have hS2 := hHeld.keep (bal (b0 X) (.cells kz6 45))
      refine hK.out _ _ hS2 (fun hHeld2 => ?_)
      try simp only [Act.put, List.setIfInBounds_toArray, List.set_cons_zero, List.set_cons_succ]
      exact s111 X.heap.size g A1 c1 _ F2 (Lib.hid (kr_9 r1.out _)) hS2
    exact AllReadyH.nil
  have s100 : ∀  (A1 : Option Addr) (c1 : Nat) (X : World), Hid (FlX w X none none) → Hid (KrN X (NN none none) A1 c1 [a, b]) → SB p q a b A B n m c d X → wpAnyH Tryd.prog .any opsM1 Q (SB p q a b A B n m c d) 5 #[true, true, true, true, true, false, false, false, false, false] ({ tmps := #[x0, x1, x2, x3, .pointer (some ⟨p, 0, none⟩), .pointer (some ⟨q, 0, none⟩), x6, undef, undef, x9, x10, x11, x12, x13, x14, x15, x16, x17, x18, .agg #[.int .u8 (a.k : Int), .int .u8 (a.o : Int), .int .u8 (a.t : Int), .int .i32 a.n, .int .i64 a.v, .slice A n c], .agg #[.int .u8 (b.k : Int), .int .u8 (b.o : Int), .int .u8 (b.t : Int), .int .i32 b.n, .int .i64 b.v, .slice B m d], .agg #[.int .u8 5, .int .u8 20, .int .u8 0, .int .i32 0, .int .i64 0, .slice A1 2 c1], .agg #[.int .u8 (a.k : Int), .int .u8 (a.o : Int), .int .u8 (a.t : Int), .int .i32 a.n, .int .i64 a.v, .slice A n c], .agg #[.int .u8 (b.k : Int), .int .u8 (b.o : Int), .int .u8 (b.t : Int), .int .i32 b.n, .int .i64 b.v, .slice B m d], undef, x25, x26, x27, x28, x29, x30, x31, x32, x33, x34, x35, x36, x37, x38, x39, x40, x41, x42, x43, x44, x45, x46, x47, x48, x49, x50, x51, x52, x53, x54, x55, x56, x57, x58, x59, x60, x61, x62, x63, x64, x65, x66, x67, x68, x69, x70, x71, x72, x73, x74, x75, x76, x77, x78, x79, x80, x81, x82, x83, x84, x85, x86, x87, x88, x89, x90, x91, x92, x93, x94, x95, x96, x97, x98, x99, x100, x101, x102, x103, x104, x105, x106, x107, x108, x109, x110, x111, x112, x113, x114, x115, x116, x117, x118, x119, x120, x121, x122, x123, x124], defers := [] } : Act) X := by
    intro  A1 c1 X F r1 hHeld
    refine wpAnyH_ready (rs := [5, 6, 7]) (by kernel_rfl) (by simp) ?_
    refine AllReadyH.cons (o := { dst := some 24, op := Op.call { callee := Callee.value (Operand.func 32), args := #[Operand.const (Value.int IntKind.u8 21), Operand.tmp 22, Operand.tmp 23], argTypes := #[43, 45, 45] }, type := 45, pos := "outright.go:150", after := #[{ on := 3, ground := Ground.data }, { on := 4, ground := Ground.data }, { on := 2, ground := Ground.chain }], guard := none }) rfl (fun K hK => ?_) ?_
    · go_simp
      go_at_call 32
      (with_reducible refine (D2.out _ _ _  F.out ).mono ?_)
      rintro e u ⟨A2, c2, rfl, t, bb⟩
      have F2 := Lib.hid (F.out.step bb)
      have hS2 := hHeld.keep bb
      refine hK.out _ _ hS2 (fun hHeld2 => ?_)
      try simp only [Act.put, List.setIfInBounds_toArray, List.set_cons_zero, List.set_cons_succ]
      exact s200  A1 c1 A2 c2 u F2 (Lib.hid (r1.out.keep bb)) (Lib.hid t) hS2
    refine AllReadyH.cons (o := { dst := some 7, op := Op.alloc 45, type := 0, pos := "outright.go:150", after := #[], guard := none }) rfl (fun K hK => ?_) ?_
    · go_simp
      have F2 := Lib.hid F.out.al9
      have hS2 := hHeld.keep (bal (b0 X) (.cells kz6 45))
      refine hK.out _ _ hS2 (fun hHeld2 => ?_)
      try simp only [Act.put, List.setIfInBounds_toArray, List.set_cons_zero, List.set_cons_succ]
      exact s110 X.heap.size A1 c1 _ F2 (Lib.hid (kr_9 r1.out _)) hS2
    refine AllReadyH.cons (o := { dst := some 8, op := Op.alloc 45, type := 0, pos := "outright.go:150", after := #[], guard := none }) rfl (fun K hK => ?_) ?_
    · go_simp
      have F2 := Lib.hid F.out.al10
      have hS2 := hHeld.keep (bal (b0 X) (.cells kz6 45))
      refine hK.out _ _ hS2 (fun hHeld2 => ?_)
      try simp only [Act.put, List.setIfInBounds_toArray, List.set_cons_zero, List.set_cons_succ]
      exact s101 X.heap.size A1 c1 _ F2 (Lib.hid (kr_10 r1.out _)) hS2
    exact AllReadyH.nil
  have s011 : ∀ (f : Nat) (g : Nat)  (X : World), Hid (FlX w X (some f) (some g)) → SB p q a b A B n m c d X → wpAnyH Tryd.prog .any opsM1 Q (SB p q a b A B n m c d) 4 #[true, true, false, true, true, false, true, true, false, false] ({ tmps := #[x0, x1, x2, x3, .pointer (some ⟨p, 0, none⟩), .pointer (some ⟨q, 0, none⟩), x6, .pointer (some ⟨f, 0, none⟩), .pointer (some ⟨g, 0, none⟩), x9, x10, x11, x12, x13, x14, x15, x16, x17, x18, .agg #[.int .u8 (a.k : Int), .int .u8 (a.o : Int), .int .u8 (a.t : Int), .int .i32 a.n, .int .i64 a.v, .slice A n c], .agg #[.int .u8 (b.k : Int), .int .u8 (b.o : Int), .int .u8 (b.t : Int), .int .i32 b.n, .int .i64 b.v, .slice B m d], undef, .agg #[.int .u8 (a.k : Int), .int .u8 (a.o : Int), .int .u8 (a.t : Int), .int .i32 a.n, .int .i64 a.v, .slice A n c], .agg #[.int .u8 (b.k : Int), .int .u8 (b.o : Int), .int .u8 (b.t : Int), .int .i32 b.n, .int .i64 b.v, .slice B m d], undef, x25, x26, x27, x28, x29, x30, x31, x32, x33, x34, x35, x36, x37, x38, x39, x40, x41, x42, x43, x44, x45, x46, x47, x48, x49, x50, x51, x52, x53, x54, x55, x56, x57, x58, x59, x60, x61, x62, x63, x64, x65, x66, x67, x68, x69, x70, x71, x72, x73, x74, x75, x76, x77, x78, x79, x80, x81, x82, x83, x84, x85, x86, x87, x88, x89, x90, x91, x92, x93, x94, x95, x96, x97, x98, x99, x100, x101, x102, x103, x104, x105, x106, x107, x108, x109, x110, x111, x112, x113, x114, x115, x116, x117, x118, x119, x120, x121, x122, x123, x124], defers := [] } : Act) X := by
    intro f g  X F  hHeld
    refine wpAnyH_ready (rs := [2]) (by kernel_rfl) (by simp) ?_
    refine AllReadyH.cons (o := { dst := some 21, op := Op.call { callee := Callee.value (Operand.func 32), args := #[Operand.const (Value.int IntKind.u8 20), Operand.tmp 19, Operand.tmp 20], argTypes := #[43, 45, 45] }, type := 45, pos := "outright.go:150", after := #[{ on := 0, ground := Ground.data }, { on := 1, ground := Ground.data }], guard := none }) rfl (fun K hK => ?_) ?_
    · go_simp
      go_at_call 32
      (with_reducible refine (D1.out _ _ _  F.out ).mono ?_)
      rintro e u ⟨A1, c1, rfl, t, bb⟩
      have F2 := Lib.hid (F.out.step bb)
      have hS2 := hHeld.keep bb
      refine hK.out _ _ hS2 (fun hHeld2 => ?_)
      try simp only [Act.put, List.setIfInBounds_toArray, List.set_cons_zero, List.set_cons_succ]
      exact s111 f g A1 c1 u F2 (Lib.hid t) hS2
    exact AllReadyH.nil
  have s010 : ∀ (f : Nat)  (X : World), Hid (FlX w X (some f) none) → SB p q a b A B n m c d X → wpAnyH Tryd.prog .any opsM1 Q (SB p q a b A B n m c d) 5 #[true, true, false, true, true, false, true, false, false, false] ({ tmps := #[x0, x1, x2, x3, .pointer (some ⟨p, 0, none⟩), .pointer (some ⟨q, 0, none⟩), x6, .pointer (some ⟨f, 0, none⟩), undef, x9, x10, x11, x12, x13, x14, x15, x16, x17, x18, .agg #[.int .u8 (a.k : Int), .int .u8 (a.o : Int), .int .u8 (a.t : Int), .int .i32 a.n, .int .i64 a.v, .slice A n c], .agg #[.int .u8 (b.k : Int), .int .u8 (b.o : Int), .int .u8 (b.t : Int), .int .i32 b.n, .int .i64 b.v, .slice B m d], undef, .agg #[.int .u8 (a.k : Int), .int .u8 (a.o : Int), .int .u8 (a.t : Int), .int .i32 a.n, .int .i64 a.v, .slice A n c], .agg #[.int .u8 (b.k : Int), .int .u8 (b.o : Int), .int .u8 (b.t : Int), .int .i32 b.n, .int .i64 b.v, .slice B m d], undef, x25, x26, x27, x28, x29, x30, x31, x32, x33, x34, x35, x36, x37, x38, x39, x40, x41, x42, x43, x44, x45, x46, x47, x48, x49, x50, x51, x52, x53, x54, x55, x56, x57, x58, x59, x60, x61, x62, x63, x64, x65, x66, x67, x68, x69, x70, x71, x72, x73, x74, x75, x76, x77, x78, x79, x80, x81, x82, x83, x84, x85, x86, x87, x88, x89, x90, x91, x92, x93, x94, x95, x96, x97, x98, x99, x100, x101, x102, x103, x104, x105, x106, x107, x108, x109, x110, x111, x112, x113, x114, x115, x116, x117, x118, x119, x120, x121, x122, x123, x124], defers := [] } : Act) X := by
    intro f  X F  hHeld
    refine wpAnyH_ready (rs := [2, 7]) (by kernel_rfl) (by simp) ?_
    refine AllReadyH.cons (o := { dst := some 21, op := Op.call { callee := Callee.value (Operand.func 32), args := #[Operand.const (Value.int IntKind.u8 20), Operand.tmp 19, Operand.tmp 20], argTypes := #[43, 45, 45] }, type := 45, pos := "outright.go:150", after := #[{ on := 0, ground := Ground.data }, { on := 1, ground := Ground.data }], guard := none }) rfl (fun K hK => ?_) ?_
    · go_simp
      go_at_call 32
      (with_reducible refine (D1.out _ _ _  F.out ).mono ?_)
      rintro e u ⟨A1, c1, rfl, t, bb⟩
      have F2 := Lib.hid (F.out.step bb)
      have hS2 := hHeld.keep bb
      refine hK.out _ _ hS2 (fun hHeld2 => ?_)
      try simp only [Act.put, List.setIfInBounds_toArray, List.set_cons_zero, List.set_cons_succ]
      exact s110 f A1 c1 u F2 (Lib.hid t) hS2
    refine AllReadyH.cons (o := { dst := some 8, op := Op.alloc 45, type := 0, pos := "outright.go:150", after := #[], guard := none }) rfl (fun K hK => ?_) ?_
    · go_simp
      have F2 := Lib.hid F.out.al10
      have hS2 := hHeld.keep (bal (b0 X) (.cells kz6 45))
      refine hK.out _ _ hS2 (fun hHeld2 => ?_)
      try simp only [Act.put, List.setIfInBounds_toArray, List.set_cons_zero, List.set_cons_succ]
      exact s011 f X.heap.size  _ F2  hS2
    exact AllReadyH.nil
  have s001 : ∀ (g : Nat)  (X : World), Hid (FlX w X none (some g)) → SB p q a b A B n m c d X → wpAnyH Tryd.prog .any opsM1 Q (SB p q a b A B n m c d) 5 #[true, true, false, true, true, false, false, true, false, false] ({ tmps := #[x0, x1, x2, x3, .pointer (some ⟨p, 0, none⟩), .pointer (some ⟨q, 0, none⟩), x6, undef, .pointer (some ⟨g, 0, none⟩), x9, x10, x11, x12, x13, x14, x15, x16, x17, x18, .agg #[.int .u8 (a.k : Int), .int .u8 (a.o : Int), .int .u8 (a.t : Int), .int .i32 a.n, .int .i64 a.v, .slice A n c], .agg #[.int .u8 (b.k : Int), .int .u8 (b.o : Int), .int .u8 (b.t : Int), .int .i32 b.n, .int .i64 b.v, .slice B m d], undef, .agg #[.int .u8 (a.k : Int), .int .u8 (a.o : Int), .int .u8 (a.t : Int), .int .i32 a.n, .int .i64 a.v, .slice A n c], .agg #[.int .u8 (b.k : Int), .int .u8 (b.o : Int), .int .u8 (b.t : Int), .int .i32 b.n, .int .i64 b.v, .slice B m d], undef, x25, x26, x27, x28, x29, x30, x31, x32, x33, x34, x35, x36, x37, x38, x39, x40, x41, x42, x43, x44, x45, x46, x47, x48, x49, x50, x51, x52, x53, x54, x55, x56, x57, x58, x59, x60, x61, x62, x63, x64, x65, x66, x67, x68, x69, x70, x71, x72, x73, x74, x75, x76, x77, x78, x79, x80, x81, x82, x83, x84, x85, x86, x87, x88, x89, x90, x91, x92, x93, x94, x95, x96, x97, x98, x99, x100, x101, x102, x103, x104, x105, x106, x107, x108, x109, x110, x111, x112, x113, x114, x115, x116, x117, x118, x119, x120, x121, x122, x123, x124], defers := [] } : Act) X := by
    intro g  X F  hHeld
    refine wpAnyH_ready (rs := [2, 6]) (by kernel_rfl) (by simp) ?_
    refine AllReadyH.cons (o := { dst := some 21, op := Op.call { callee := Callee.value (Operand.func 32), args := #[Operand.const (Value.int IntKind.u8 20), Operand.tmp 19, Operand.tmp 20], argTypes := #[43, 45, 45] }, type := 45, pos := "outright.go:150", after := #[{ on := 0, ground := Ground.data }, { on := 1, ground := Ground.data }], guard := none }) rfl (fun K hK => ?_) ?_
    · go_simp
      go_at_call 32
      (with_reducible refine (D1.out _ _ _  F.out ).mono ?_)
      rintro e u ⟨A1, c1, rfl, t, bb⟩
      have F2 := Lib.hid (F.out.step bb)
      have hS2 := hHeld.keep bb
      refine hK.out _ _ hS2 (fun hHeld2 => ?_)
      try simp only [Act.put, List.setIfInBounds_toArray, List.set_cons_zero, List.set_cons_succ]
      exact s101 g A1 c1 u F2 (Lib.hid t) hS2
    refine AllReadyH.cons (o := { dst := some 7, op := Op.alloc 45, type := 0, pos := "outright.go:150", after := #[], guard := none }) rfl (fun K hK => ?_) ?_
    · go_simp
      have F2 := Lib.hid F.out.al9
      have hS2 := hHeld.keep (bal (b0 X) (.cells kz6 45))
      refine hK.out _ _ hS2 (fun hHeld2 => ?_)
      try simp only [Act.put, List.setIfInBounds_toArray, List.set_cons_zero, List.set_cons_succ]
      exact s011 X.heap.size g  _ F2  hS2
    exact AllReadyH.nil
  have s000 : ∀   (X : World), Hid (FlX w X none none) → SB p q a b A B n m c d X → wpAnyH Tryd.prog .any opsM1 Q (SB p q a b A B n m c d) 6 #[true, true, false, true, true, false, false, false, false, false] ({ tmps := #[x0, x1, x2, x3, .pointer (some ⟨p, 0, none⟩), .pointer (some ⟨q, 0, none⟩), x6, undef, undef, x9, x10, x11, x12, x13, x14, x15, x16, x17, x18, .agg #[.int .u8 (a.k : Int), .int .u8 (a.o : Int), .int .u8 (a.t : Int), .int .i32 a.n, .int .i64 a.v, .slice A n c], .agg #[.int .u8 (b.k : Int), .int .u8 (b.o : Int), .int .u8 (b.t : Int), .int .i32 b.n, .int .i64 b.v, .slice B m d], undef, .agg #[.int .u8 (a.k : Int), .int .u8 (a.o : Int), .int .u8 (a.t : Int), .int .i32 a.n, .int .i64 a.v, .slice A n c], .agg #[.int .u8 (b.k : Int), .int .u8 (b.o : Int), .int .u8 (b.t : Int), .int .i32 b.n, .int .i64 b.v, .slice B m d], undef, x25, x26, x27, x28, x29, x30, x31, x32, x33, x34, x35, x36, x37, x38, x39, x40, x41, x42, x43, x44, x45, x46, x47, x48, x49, x50, x51, x52, x53, x54, x55, x56, x57, x58, x59, x60, x61, x62, x63, x64, x65, x66, x67, x68, x69, x70, x71, x72, x73, x74, x75, x76, x77, x78, x79, x80, x81, x82, x83, x84, x85, x86, x87, x88, x89, x90, x91, x92, x93, x94, x95, x96, x97, x98, x99, x100, x101, x102, x103, x104, x105, x106, x107, x108, x109, x110, x111, x112, x113, x114, x115, x116, x117, x118, x119, x120, x121, x122, x123, x124], defers := [] } : Act) X := by
    intro   X F  hHeld
    refine wpAnyH_ready (rs := [2, 6, 7]) (by kernel_rfl) (by simp) ?_
    refine AllReadyH.cons (o := { dst := some 21, op := Op.call { callee := Callee.value (Operand.func 32), args := #[Operand.const (Value.int IntKind.u8 20), Operand.tmp 19, Operand.tmp 20], argTypes := #[43, 45, 45] }, type := 45, pos := "outright.go:150", after := #[{ on := 0, ground := Ground.data }, { on := 1, ground := Ground.data }], guard := none }) rfl (fun K hK => ?_) ?_
    · go_simp
      go_at_call 32
      (with_reducible refine (D1.out _ _ _  F.out ).mono ?_)
      rintro e u ⟨A1, c1, rfl, t, bb⟩
      have F2 := Lib.hid (F.out.step bb)
      have hS2 := hHeld.keep bb
      refine hK.out _ _ hS2 (fun hHeld2 => ?_)
      try simp only [Act.put, List.setIfInBounds_toArray, List.set_cons_zero, List.set_cons_succ]
      exact s100  A1 c1 u F2 (Lib.hid t) hS2
    refine AllReadyH.cons (o := { dst := some 7, op := Op.alloc 45, type := 0, pos := "outright.go:150", after := #[], guard := none }) rfl (fun K hK => ?_) ?_
    · go_simp
      have F2 := Lib.hid F.out.al9
      have hS2 := hHeld.keep (bal (b0 X) (.cells kz6 45))
      refine hK.out _ _ hS2 (fun hHeld2 => ?_)
      try simp only [Act.put, List.setIfInBounds_toArray, List.set_cons_zero, List.set_cons_succ]
      exact s010 X.heap.size  _ F2  hS2
    refine AllReadyH.cons (o := { dst := some 8, op := Op.alloc 45, type := 0, pos := "outright.go:150", after := #[], guard := none }) rfl (fun K hK => ?_) ?_
    · go_simp
      have F2 := Lib.hid F.out.al10
      have hS2 := hHeld.keep (bal (b0 X) (.cells kz6 45))
      refine hK.out _ _ hS2 (fun hHeld2 => ?_)
      try simp only [Act.put, List.setIfInBounds_toArray, List.set_cons_zero, List.set_cons_succ]
      exact s001 X.heap.size  _ F2  hS2
    exact AllReadyH.nil
  have F0 : Hid (FlX w w.drew none none) := Lib.hid (.new (bdrew (b0 w) 1))
  have h0 : SB p q a b A B n m c d w.drew := HS.out _ F0.out.b
  show (Code.region 1 opsM1 true).wp Tryd.prog Q _ w
  refine wp_region_held_drew (S := SB p q a b A B n m c d) (by kernel_rfl) h0 (fun hHeld => ?_)
  show wpAnyH _ _ _ _ _ 10 #[false, false, false, false, false, false, false, false, false, false] _ _
  refine wpAnyH_take (i := 0) (oi := { dst := some 19, op := Op.load 45 (Operand.tmp 4), type := 45, pos := "outright.go:150", after := #[], guard := none }) (v := .agg #[.int .u8 (a.k : Int), .int .u8 (a.o : Int), .int .u8 (a.t : Int), .int .i32 a.n, .int .i64 a.v, .slice A n c]) rfl (by kernel_rfl) (by kernel_rfl) (by kernel_rfl) (fun _ _ _ h => hP _ _ _ _ _ h) (Or.inl ⟨by rfl, fun w5 hSw => by obtain ⟨x0_, x1_, x2_, x3_, x4_, x5_, y0_, y1_, y2_, y3_, y4_, y5_⟩ := hSw; go_simp⟩) hHeld ?_
  try simp only [Act.put, List.setIfInBounds_toArray, List.set_cons_zero, List.set_cons_succ]
  refine wpAnyH_take (i := 1) (oi := { dst := some 20, op := Op.load 45 (Operand.tmp 5), type := 45, pos := "outright.go:150", after := #[], guard := none }) (v := .agg #[.int .u8 (b.k : Int), .int .u8 (b.o : Int), .int .u8 (b.t : Int), .int .i32 b.n, .int .i64 b.v, .slice B m d]) rfl (by kernel_rfl) (by kernel_rfl) (by kernel_rfl) (fun _ _ _ h => hP _ _ _ _ _ h) (Or.inl ⟨by rfl, fun w5 hSw => by obtain ⟨x0_, x1_, x2_, x3_, x4_, x5_, y0_, y1_, y2_, y3_, y4_, y5_⟩ := hSw; go_simp⟩) hHeld ?_
  try simp only [Act.put, List.setIfInBounds_toArray, List.set_cons_zero, List.set_cons_succ]
  refine wpAnyH_take (i := 3) (oi := { dst := some 22, op := Op.load 45 (Operand.tmp 4), type := 45, pos := "outright.go:150", after := #[], guard := none }) (v := .agg #[.int .u8 (a.k : Int), .int .u8 (a.o : Int), .int .u8 (a.t : Int), .int .i32 a.n, .int .i64 a.v, .slice A n c]) rfl (by kernel_rfl) (by kernel_rfl) (by kernel_rfl) (fun _ _ _ h => hP _ _ _ _ _ h) (Or.inl ⟨by rfl, fun w5 hSw => by obtain ⟨x0_, x1_, x2_, x3_, x4_, x5_, y0_, y1_, y2_, y3_, y4_, y5_⟩ := hSw; go_simp⟩) hHeld ?_
  try simp only [Act.put, List.setIfInBounds_toArray, List.set_cons_zero, List.set_cons_succ]
  refine wpAnyH_take (i := 4) (oi := { dst := some 23, op := Op.load 45 (Operand.tmp 5), type := 45, pos := "outright.go:150", after := #[], guard := none }) (v := .agg #[.int .u8 (b.k : Int), .int .u8 (b.o : Int), .int .u8 (b.t : Int), .int .i32 b.n, .int .i64 b.v, .slice B m d]) rfl (by kernel_rfl) (by kernel_rfl) (by kernel_rfl) (fun _ _ _ h => hP _ _ _ _ _ h) (Or.inl ⟨by rfl, fun w5 hSw => by obtain ⟨x0_, x1_, x2_, x3_, x4_, x5_, y0_, y1_, y2_, y3_, y4_, y5_⟩ := hSw; go_simp⟩) hHeld ?_
  try simp only [Act.put, List.setIfInBounds_toArray, List.set_cons_zero, List.set_cons_succ]
  exact s000 _ F0 h0
def opsM2 : Array Oper := #[{ dst := some 25, op := Op.load 45 (Operand.tmp 4), type := 45, pos := "outright.go:151", after := #[], guard := none }, { dst := some 26, op := Op.call { callee := Callee.value (Operand.func 33), args := #[Operand.tmp 25], argTypes := #[45] }, type := 45, pos := "outright.go:151", after := #[{ on := 0, ground := Ground.data }], guard := none }, { dst := some 27, op := Op.load 45 (Operand.tmp 5), type := 45, pos := "outright.go:151", after := #[], guard := none }, { dst := some 28, op := Op.call { callee := Callee.value (Operand.func 33), args := #[Operand.tmp 27], argTypes := #[45] }, type := 45, pos := "outright.go:151", after := #[{ on := 2, ground := Ground.data }, { on := 1, ground := Ground.chain }], guard := none }, { dst := some 29, op := Op.call { callee := Callee.value (Operand.func 32), args := #[Operand.const (Value.int IntKind.u8 21), Operand.tmp 26, Operand.tmp 28], argTypes := #[43, 45, 45] }, type := 45, pos := "outright.go:151", after := #[{ on := 1, ground := Ground.data }, { on := 3, ground := Ground.data }, { on := 3, ground := Ground.chain }], guard := none }, { dst := some 30, op := Op.call { callee := Callee.value (Operand.func 33), args := #[Operand.tmp 29], argTypes := #[45] }, type := 45, pos := "outright.go:151", after := #[{ on := 4, ground := Ground.data }, { on := 4, ground := Ground.chain }], guard := none }, { dst := some 31, op := Op.load 45 (Operand.tmp 4), type := 45, pos := "outright.go:151", after := #[], guard := none }, { dst := some 32, op := Op.call { callee := Callee.value (Operand.func 33), args := #[Operand.tmp 31], argTypes := #[45] }, type := 45, pos := "outright.go:151", after := #[{ on := 6, ground := Ground.data }, { on := 5, ground := Ground.chain }], guard := none }, { dst := some 33, op := Op.load 45 (Operand.tmp 5), type := 45, pos := "outright.go:151", after := #[], guard := none }, { dst := some 34, op := Op.call { callee := Callee.value (Operand.func 33), args := #[Operand.tmp 33], argTypes := #[45] }, type := 45, pos := "outright.go:151", after := #[{ on := 8, ground := Ground.data }, { on := 7, ground := Ground.chain }], guard := none }, { dst := some 35, op := Op.call { callee := Callee.value (Operand.func 32), args := #[Operand.const (Value.int IntKind.u8 20), Operand.tmp 32, Operand.tmp 34], argTypes := #[43, 45, 45] }, type := 45, pos := "outright.go:151", after := #[{ on := 7, ground := Ground.data }, { on := 9, ground := Ground.data }, { on := 9, ground := Ground.chain }], guard := none }, { dst := some 36, op := Op.call { callee := Callee.value (Operand.func 33), args := #[Operand.tmp 35], argTypes := #[45] }, type := 45, pos := "outright.go:151", after := #[{ on := 10, ground := Ground.data }, { on := 10, ground := Ground.chain }], guard := none }, { dst := some 9, op := Op.alloc 45, type := 0, pos := "outright.go:151", after := #[], guard := none }, { dst := some 10, op := Op.alloc 45, type := 0, pos := "outright.go:151", after := #[], guard := none }, { dst := none, op := Op.store 45 (Operand.tmp 9) (Operand.tmp 30), type := 0, pos := "outright.go:151", after := #[{ on := 12, ground := Ground.data }, { on := 5, ground := Ground.data }, { on := 11, ground := Ground.chain }, { on := 0, ground := Ground.phase }, { on := 1, ground := Ground.phase }, { on := 2, ground := Ground.phase }, { on := 3, ground := Ground.phase }, { on := 4, ground := Ground.phase }, { on := 5, ground := Ground.phase }, { on := 6, ground := Ground.textOnly Departure.lateStores }, { on := 7, ground := Ground.textOnly Departure.lateStoresUnsure }, { on := 8, ground := Ground.textOnly Departure.lateStores }, { on := 9, ground := Ground.textOnly Departure.lateStoresUnsure }, { on := 10, ground := Ground.textOnly Departure.lateStoresUnsure }, { on := 11, ground := Ground.textOnly Departure.lateStoresUnsure }, { on := 12, ground := Ground.phase }, { on := 13, ground := Ground.phase }], guard := none }, { dst := none, op := Op.store 45 (Operand.tmp 10) (Operand.tmp 36), type := 0, pos := "outright.go:151", after := #[{ on := 13, ground := Ground.data }, { on := 11, ground := Ground.data }, { on := 14, ground := Ground.chain }, { on := 0, ground := Ground.phase }, { on := 1, ground := Ground.phase }, { on := 2, ground := Ground.phase }, { on := 3, ground := Ground.phase }, { on := 4, ground := Ground.phase }, { on := 5, ground := Ground.phase }, { on := 6, ground := Ground.phase }, { on := 7, ground := Ground.phase }, { on := 8, ground := Ground.phase }, { on := 9, ground := Ground.phase }, { on := 10, ground := Ground.phase }, { on := 11, ground := Ground.phase }, { on := 12, ground := Ground.phase }, { on := 13, ground := Ground.phase }, { on := 14, ground := Ground.phase }], guard := none }]
set_option maxRecDepth 100000 in
set_option maxHeartbeats 16000000 in
theorem region2 (w : World) (p q : Nat) (a b : Kx) (A B : Option Addr) (n m c d : Nat) {x0 x1 x2 x3 x6 x7 x8 x11 x12 x13 x14 x15 x16 x17 x18 x19 x20 x21 x22 x23 x24 x37 x38 x39 x40 x41 x42 x43 x44 x45 x46 x47 x48 x49 x50 x51 x52 x53 x54 x55 x56 x57 x58 x59 x60 x61 x62 x63 x64 x65 x66 x67 x68 x69 x70 x71 x72 x73 x74 x75 x76 x77 x78 x79 x80 x81 x82 x83 x84 x85 x86 x87 x88 x89 x90 x91 x92 x93 x94 x95 x96 x97 x98 x99 x100 x101 x102 x103 x104 x105 x106 x107 x108 x109 x110 x111 x112 x113 x114 x115 x116 x117 x118 x119 x120 x121 x122 x123 x124 : Value} (hn : a.l.length = n) (hm : b.l.length = m) (oka : OKk a) (okb : OKk b) (Ra : KrR w A c a.l) (Rb : KrR w B d b.l) (hS : SB p q a b A B n m c d w)
    {Q : Exit → Act → World → Prop} (hP : ∀ c a d v w, Q (.panic c) (Act.put a d v) w → Q (.panic c) a w)
    (hQ : ∀ (f g : Nat) (A1 : Option Addr) (c1 : Nat) (A2 : Option Addr) (c2 : Nat) (A3 : Option Addr) (c3 : Nat) (A4 : Option Addr) (c4 : Nat) (A5 : Option Addr) (c5 : Nat) (A6 : Option Addr) (c6 : Nat) (A7 : Option Addr) (c7 : Nat) (A8 : Option Addr) (c8 : Nat) (Y : World), Below w.heap.size w Y → w.heap.size ≤ f → w.heap.size ≤ g → (∃ N c, BoxS Y f 45 (kxC (k1 26 (k2 21 (k1 26 a) (k1 26 b))) N 1 c) ∧ KrR Y N c [k2 21 (k1 26 a) (k1 26 b)]) → (∃ N c, BoxS Y g 45 (kxC (k1 26 (k2 20 (k1 26 a) (k1 26 b))) N 1 c) ∧ KrR Y N c [k2 20 (k1 26 a) (k1 26 b)]) → Q .normal ({ tmps := #[x0, x1, x2, x3, .pointer (some ⟨p, 0, none⟩), .pointer (some ⟨q, 0, none⟩), x6, x7, x8, .pointer (some ⟨f, 0, none⟩), .pointer (some ⟨g, 0, none⟩), x11, x12, x13, x14, x15, x16, x17, x18, x19, x20, x21, x22, x23, x24, .agg #[.int .u8 (a.k : Int), .int .u8 (a.o : Int), .int .u8 (a.t : Int), .int .i32 a.n, .int .i64 a.v, .slice A n c], .agg #[.int .u8 4, .int .u8 26, .int .u8 0, .int .i32 0, .int .i64 0, .slice A1 1 c1], .agg #[.int .u8 (b.k : Int), .int .u8 (b.o : Int), .int .u8 (b.t : Int), .int .i32 b.n, .int .i64 b.v, .slice B m d], .agg #[.int .u8 4, .int .u8 26, .int .u8 0, .int .i32 0, .int .i64 0, .slice A2 1 c2], .agg #[.int .u8 5, .int .u8 21, .int .u8 0, .int .i32 0, .int .i64 0, .slice A3 2 c3], .agg #[.int .u8 4, .int .u8 26, .int .u8 0, .int .i32 0, .int .i64 0, .slice A4 1 c4], .agg #[.int .u8 (a.k : Int), .int .u8 (a.o : Int), .int .u8 (a.t : Int), .int .i32 a.n, .int .i64 a.v, .slice A n c], .agg #[.int .u8 4, .int .u8 26, .int .u8 0, .int .i32 0, .int .i64 0, .slice A5 1 c5], .agg #[.int .u8 (b.k : Int), .int .u8 (b.o : Int), .int .u8 (b.t : Int), .int .i32 b.n, .int .i64 b.v, .slice B m d], .agg #[.int .u8 4, .int .u8 26, .int .u8 0, .int .i32 0, .int .i64 0, .slice A6 1 c6], .agg #[.int .u8 5, .int .u8 20, .int .u8 0, .int .i32 0, .int .i64 0, .slice A7 2 c7], .agg #[.int .u8 4, .int .u8 26, .int .u8 0, .int .i32 0, .int .i64 0, .slice A8 1 c8], x37, x38, x39, x40, x41, x42, x43, x44, x45, x46, x47, x48, x49, x50, x51, x52, x53, x54, x55, x56, x57, x58, x59, x60, x61, x62, x63, x64, x65, x66, x67, x68, x69, x70, x71, x72, x73, x74, x75, x76, x77, x78, x79, x80, x81, x82, x83, x84, x85, x86, x87, x88, x89, x90, x91, x92, x93, x94, x95, x96, x97, x98, x99, x100, x101, x102, x103, x104, x105, x106, x107, x108, x109, x110, x111, x112, x113, x114, x115, x116, x117, x118, x119, x120, x121, x122, x123, x124], defers := [] } : Act) Y) :
    (Code.region 2 #[{ dst := some 25, op := Op.load 45 (Operand.tmp 4), type := 45, pos := "outright.go:151", after := #[], guard := none }, { dst := some 26, op := Op.call { callee := Callee.value (Operand.func 33), args := #[Operand.tmp 25], argTypes := #[45] }, type := 45, pos := "outright.go:151", after := #[{ on := 0, ground := Ground.data }], guard := none }, { dst := some 27, op := Op.load 45 (Operand.tmp 5), type := 45, pos := "outright.go:151", after := #[], guard := none }, { dst := some 28, op := Op.call { callee := Callee.value (Operand.func 33), args := #[Operand.tmp 27], argTypes := #[45] }, type := 45, pos := "outright.go:151", after := #[{ on := 2, ground := Ground.data }, { on := 1, ground := Ground.chain }], guard := none }, { dst := some 29, op := Op.call { callee := Callee.value (Operand.func 32), args := #[Operand.const (Value.int IntKind.u8 21), Operand.tmp 26, Operand.tmp 28], argTypes := #[43, 45, 45] }, type := 45, pos := "outright.go:151", after := #[{ on := 1, ground := Ground.data }, { on := 3, ground := Ground.data }, { on := 3, ground := Ground.chain }], guard := none }, { dst := some 30, op := Op.call { callee := Callee.value (Operand.func 33), args := #[Operand.tmp 29], argTypes := #[45] }, type := 45, pos := "outright.go:151", after := #[{ on := 4, ground := Ground.data }, { on := 4, ground := Ground.chain }], guard := none }, { dst := some 31, op := Op.load 45 (Operand.tmp 4), type := 45, pos := "outright.go:151", after := #[], guard := none }, { dst := some 32, op := Op.call { callee := Callee.value (Operand.func 33), args := #[Operand.tmp 31], argTypes := #[45] }, type := 45, pos := "outright.go:151", after := #[{ on := 6, ground := Ground.data }, { on := 5, ground := Ground.chain }], guard := none }, { dst := some 33, op := Op.load 45 (Operand.tmp 5), type := 45, pos := "outright.go:151", after := #[], guard := none }, { dst := some 34, op := Op.call { callee := Callee.value (Operand.func 33), args := #[Operand.tmp 33], argTypes := #[45] }, type := 45, pos := "outright.go:151", after := #[{ on := 8, ground := Ground.data }, { on := 7, ground := Ground.chain }], guard := none }, { dst := some 35, op := Op.call { callee := Callee.value (Operand.func 32), args := #[Operand.const (Value.int IntKind.u8 20), Operand.tmp 32, Operand.tmp 34], argTypes := #[43, 45, 45] }, type := 45, pos := "outright.go:151", after := #[{ on := 7, ground := Ground.data }, { on := 9, ground := Ground.data }, { on := 9, ground := Ground.chain }], guard := none }, { dst := some 36, op := Op.call { callee := Callee.value (Operand.func 33), args := #[Operand.tmp 35], argTypes := #[45] }, type := 45, pos := "outright.go:151", after := #[{ on := 10, ground := Ground.data }, { on := 10, ground := Ground.chain }], guard := none }, { dst := some 9, op := Op.alloc 45, type := 0, pos := "outright.go:151", after := #[], guard := none }, { dst := some 10, op := Op.alloc 45, type := 0, pos := "outright.go:151", after := #[], guard := none }, { dst := none, op := Op.store 45 (Operand.tmp 9) (Operand.tmp 30), type := 0, pos := "outright.go:151", after := #[{ on := 12, ground := Ground.data }, { on := 5, ground := Ground.data }, { on := 11, ground := Ground.chain }, { on := 0, ground := Ground.phase }, { on := 1, ground := Ground.phase }, { on := 2, ground := Ground.phase }, { on := 3, ground := Ground.phase }, { on := 4, ground := Ground.phase }, { on := 5, ground := Ground.phase }, { on := 6, ground := Ground.textOnly Departure.lateStores }, { on := 7, ground := Ground.textOnly Departure.lateStoresUnsure }, { on := 8, ground := Ground.textOnly Departure.lateStores }, { on := 9, ground := Ground.textOnly Departure.lateStoresUnsure }, { on := 10, ground := Ground.textOnly Departure.lateStoresUnsure }, { on := 11, ground := Ground.textOnly Departure.lateStoresUnsure }, { on := 12, ground := Ground.phase }, { on := 13, ground := Ground.phase }], guard := none }, { dst := none, op := Op.store 45 (Operand.tmp 10) (Operand.tmp 36), type := 0, pos := "outright.go:151", after := #[{ on := 13, ground := Ground.data }, { on := 11, ground := Ground.data }, { on := 14, ground := Ground.chain }, { on := 0, ground := Ground.phase }, { on := 1, ground := Ground.phase }, { on := 2, ground := Ground.phase }, { on := 3, ground := Ground.phase }, { on := 4, ground := Ground.phase }, { on := 5, ground := Ground.phase }, { on := 6, ground := Ground.phase }, { on := 7, ground := Ground.phase }, { on := 8, ground := Ground.phase }, { on := 9, ground := Ground.phase }, { on := 10, ground := Ground.phase }, { on := 11, ground := Ground.phase }, { on := 12, ground := Ground.phase }, { on := 13, ground := Ground.phase }, { on := 14, ground := Ground.phase }], guard := none }] true).wp Tryd.prog Q ({ tmps := #[x0, x1, x2, x3, .pointer (some ⟨p, 0, none⟩), .pointer (some ⟨q, 0, none⟩), x6, x7, x8, undef, undef, x11, x12, x13, x14, x15, x16, x17, x18, x19, x20, x21, x22, x23, x24, undef, undef, undef, undef, undef, undef, undef, undef, undef, undef, undef, undef, x37, x38, x39, x40, x41, x42, x43, x44, x45, x46, x47, x48, x49, x50, x51, x52, x53, x54, x55, x56, x57, x58, x59, x60, x61, x62, x63, x64, x65, x66, x67, x68, x69, x70, x71, x72, x73, x74, x75, x76, x77, x78, x79, x80, x81, x82, x83, x84, x85, x86, x87, x88, x89, x90, x91, x92, x93, x94, x95, x96, x97, x98, x99, x100, x101, x102, x103, x104, x105, x106, x107, x108, x109, x110, x111, x112, x113, x114, x115, x116, x117, x118, x119, x120, x121, x122, x123, x124], defers := [] } : Act) w := by
  have HS := Lib.hid fun X (h : Below w.heap.size w X) => hS.keep h
  have HA := Lib.hid fun X o1 o2 (h : FlX w X o1 o2) => h.base Ra
  have HB := Lib.hid fun X o1 o2 (h : FlX w X o1 o2) => h.base Rb
  have D1 : Hid (∀ X o1 o2 , FlX w X o1 o2 → Calls Tryd.prog 33 #[.agg #[.int .u8 (a.k : Int), .int .u8 (a.o : Int), .int .u8 (a.t : Int), .int .i32 a.n, .int .i64 a.v, .slice A n c]] X fun e X' => ∃ A1 c1, e = .returned (.agg #[.int .u8 4, .int .u8 26, .int .u8 0, .int .i32 0, .int .i64 0, .slice A1 1 c1]) ∧ KrN X' (NN o1 o2) A1 c1 [a] ∧ Below X.heap.size X X') := Lib.hid fun X o1 o2  h  => by
    have := mnot_N (NN o1 o2) a A n c X hn (HA.out _ _ _ h) oka
    exact this.mono fun e X' ⟨A', c', h1, h2, h3⟩ => ⟨A', c', h1, h.call h2, h3⟩
  have D2 : Hid (∀ X o1 o2 , FlX w X o1 o2 → Calls Tryd.prog 33 #[.agg #[.int .u8 (b.k : Int), .int .u8 (b.o : Int), .int .u8 (b.t : Int), .int .i32 b.n, .int .i64 b.v, .slice B m d]] X fun e X' => ∃ A2 c2, e = .returned (.agg #[.int .u8 4, .int .u8 26, .int .u8 0, .int .i32 0, .int .i64 0, .slice A2 1 c2]) ∧ KrN X' (NN o1 o2) A2 c2 [b] ∧ Below X.heap.size X X') := Lib.hid fun X o1 o2  h  => by
    have := mnot_N (NN o1 o2) b B m d X hm (HB.out _ _ _ h) okb
    exact this.mono fun e X' ⟨A', c', h1, h2, h3⟩ => ⟨A', c', h1, h.call h2, h3⟩
  have D3 : Hid (∀ X o1 o2 (A1 : Option Addr) (c1 : Nat) (A2 : Option Addr) (c2 : Nat), FlX w X o1 o2 → KrN X (NN o1 o2) A1 c1 [a] → KrN X (NN o1 o2) A2 c2 [b] → Calls Tryd.prog 32 #[.int .u8 21, .agg #[.int .u8 4, .int .u8 26, .int .u8 0, .int .i32 0, .int .i64 0, .slice A1 1 c1], .agg #[.int .u8 4, .int .u8 26, .int .u8 0, .int .i32 0, .int .i64 0, .slice A2 1 c2]] X fun e X' => ∃ A3 c3, e = .returned (.agg #[.int .u8 5, .int .u8 21, .int .u8 0, .int .i32 0, .int .i64 0, .slice A3 2 c3]) ∧ KrN X' (NN o1 o2) A3 c3 [k1 26 a, k1 26 b] ∧ Below X.heap.size X X') := Lib.hid fun X o1 o2 A1 c1 A2 c2 h r1 r2 => by
    have := mtwo_N (NN o1 o2) 21 (k1 26 a) (k1 26 b) A1 A2 1 1 c1 c2 X rfl rfl r1 r2 (ok_k1 (by omega)) (ok_k1 (by omega))
    exact this.mono fun e X' ⟨A', c', h1, h2, h3⟩ => ⟨A', c', h1, h.call h2, h3⟩
  have D4 : Hid (∀ X o1 o2 (A3 : Option Addr) (c3 : Nat), FlX w X o1 o2 → KrN X (NN o1 o2) A3 c3 [k1 26 a, k1 26 b] → Calls Tryd.prog 33 #[.agg #[.int .u8 5, .int .u8 21, .int .u8 0, .int .i32 0, .int .i64 0, .slice A3 2 c3]] X fun e X' => ∃ A4 c4, e = .returned (.agg #[.int .u8 4, .int .u8 26, .int .u8 0, .int .i32 0, .int .i64 0, .slice A4 1 c4]) ∧ KrN X' (NN o1 o2) A4 c4 [k2 21 (k1 26 a) (k1 26 b)] ∧ Below X.heap.size X X') := Lib.hid fun X o1 o2 A3 c3 h r3 => by
    have := mnot_N (NN o1 o2) (k2 21 (k1 26 a) (k1 26 b)) A3 2 c3 X rfl r3 (ok_k2 (by omega))
    exact this.mono fun e X' ⟨A', c', h1, h2, h3⟩ => ⟨A', c', h1, h.call h2, h3⟩
  have D5 : Hid (∀ X o1 o2 , FlX w X o1 o2 → Calls Tryd.prog 33 #[.agg #[.int .u8 (a.k : Int), .int .u8 (a.o : Int), .int .u8 (a.t : Int), .int .i32 a.n, .int .i64 a.v, .slice A n c]] X fun e X' => ∃ A5 c5, e = .returned (.agg #[.int .u8 4, .int .u8 26, .int .u8 0, .int .i32 0, .int .i64 0, .slice A5 1 c5]) ∧ KrN X' (NN o1 o2) A5 c5 [a] ∧ Below X.heap.size X X') := Lib.hid fun X o1 o2  h  => by
    have := mnot_N (NN o1 o2) a A n c X hn (HA.out _ _ _ h) oka
    exact this.mono fun e X' ⟨A', c', h1, h2, h3⟩ => ⟨A', c', h1, h.call h2, h3⟩
  have D6 : Hid (∀ X o1 o2 , FlX w X o1 o2 → Calls Tryd.prog 33 #[.agg #[.int .u8 (b.k : Int), .int .u8 (b.o : Int), .int .u8 (b.t : Int), .int .i32 b.n, .int .i64 b.v, .slice B m d]] X fun e X' => ∃ A6 c6, e = .returned (.agg #[.int .u8 4, .int .u8 26, .int .u8 0, .int .i32 0, .int .i64 0, .slice A6 1 c6]) ∧ KrN X' (NN o1 o2) A6 c6 [b] ∧ Below X.heap.size X X') := Lib.hid fun X o1 o2  h  => by
    have := mnot_N (NN o1 o2) b B m d X hm (HB.out _ _ _ h) okb
    exact this.mono fun e X' ⟨A', c', h1, h2, h3⟩ => ⟨A', c', h1, h.call h2, h3⟩
  have D7 : Hid (∀ X o1 o2 (A5 : Option Addr) (c5 : Nat) (A6 : Option Addr) (c6 : Nat), FlX w X o1 o2 → KrN X (NN o1 o2) A5 c5 [a] → KrN X (NN o1 o2) A6 c6 [b] → Calls Tryd.prog 32 #[.int .u8 20, .agg #[.int .u8 4, .int .u8 26, .int .u8 0, .int .i32 0, .int .i64 0, .slice A5 1 c5], .agg #[.int .u8 4, .int .u8 26, .int .u8 0, .int .i32 0, .int .i64 0, .slice A6 1 c6]] X fun e X' => ∃ A7 c7, e = .returned (.agg #[.int .u8 5, .int .u8 20, .int .u8 0, .int .i32 0, .int .i64 0, .slice A7 2 c7]) ∧ KrN X' (NN o1 o2) A7 c7 [k1 26 a, k1 26 b] ∧ Below X.heap.size X X') := Lib.hid fun X o1 o2 A5 c5 A6 c6 h r5 r6 => by
    have := mtwo_N (NN o1 o2) 20 (k1 26 a) (k1 26 b) A5 A6 1 1 c5 c6 X rfl rfl r5 r6 (ok_k1 (by omega)) (ok_k1 (by omega))
    exact this.mono fun e X' ⟨A', c', h1, h2, h3⟩ => ⟨A', c', h1, h.call h2, h3⟩
  have D8 : Hid (∀ X o1 o2 (A7 : Option Addr) (c7 : Nat), FlX w X o1 o2 → KrN X (NN o1 o2) A7 c7 [k1 26 a, k1 26 b] → Calls Tryd.prog 33 #[.agg #[.int .u8 5, .int .u8 20, .int .u8 0, .int .i32 0, .int .i64 0, .slice A7 2 c7]] X fun e X' => ∃ A8 c8, e = .returned (.agg #[.int .u8 4, .int .u8 26, .int .u8 0, .int .i32 0, .int .i64 0, .slice A8 1 c8]) ∧ KrN X' (NN o1 o2) A8 c8 [k2 20 (k1 26 a) (k1 26 b)] ∧ Below X.heap.size X X') := Lib.hid fun X o1 o2 A7 c7 h r7 => by
    have := mnot_N (NN o1 o2) (k2 20 (k1 26 a) (k1 26 b)) A7 2 c7 X rfl r7 (ok_k2 (by omega))
    exact this.mono fun e X' ⟨A', c', h1, h2, h3⟩ => ⟨A', c', h1, h.call h2, h3⟩
  clear hS Ra Rb hn hm oka okb
  have s811 : ∀ (f : Nat) (g : Nat) (A1 : Option Addr) (c1 : Nat) (A2 : Option Addr) (c2 : Nat) (A3 : Option Addr) (c3 : Nat) (A4 : Option Addr) (c4 : Nat) (A5 : Option Addr) (c5 : Nat) (A6 : Option Addr) (c6 : Nat) (A7 : Option Addr) (c7 : Nat) (A8 : Option Addr) (c8 : Nat) (X : World), Hid (FlX w X (some f) (some g)) → Hid (KrN X (NN (some f) (some g)) A4 c4 [k2 21 (k1 26 a) (k1 26 b)]) → Hid (KrN X (NN (some f) (some g)) A8 c8 [k2 20 (k1 26 a) (k1 26 b)]) → SB p q a b A B n m c d X → wpAnyH Tryd.prog .any opsM2 Q (SB p q a b A B n m c d) 2 #[true, true, true, true, true, true, true, true, true, true, true, true, true, true, false, false] ({ tmps := #[x0, x1, x2, x3, .pointer (some ⟨p, 0, none⟩), .pointer (some ⟨q, 0, none⟩), x6, x7, x8, .pointer (some ⟨f, 0, none⟩), .pointer (some ⟨g, 0, none⟩), x11, x12, x13, x14, x15, x16, x17, x18, x19, x20, x21, x22, x23, x24, .agg #[.int .u8 (a.k : Int), .int .u8 (a.o : Int), .int .u8 (a.t : Int), .int .i32 a.n, .int .i64 a.v, .slice A n c], .agg #[.int .u8 4, .int .u8 26, .int .u8 0, .int .i32 0, .int .i64 0, .slice A1 1 c1], .agg #[.int .u8 (b.k : Int), .int .u8 (b.o : Int), .int .u8 (b.t : Int), .int .i32 b.n, .int .i64 b.v, .slice B m d], .agg #[.int .u8 4, .int .u8 26, .int .u8 0, .int .i32 0, .int .i64 0, .slice A2 1 c2], .agg #[.int .u8 5, .int .u8 21, .int .u8 0, .int .i32 0, .int .i64 0, .slice A3 2 c3], .agg #[.int .u8 4, .int .u8 26, .int .u8 0, .int .i32 0, .int .i64 0, .slice A4 1 c4], .agg #[.int .u8 (a.k : Int), .int .u8 (a.o : Int), .int .u8 (a.t : Int), .int .i32 a.n, .int .i64 a.v, .slice A n c], .agg #[.int .u8 4, .int .u8 26, .int .u8 0, .int .i32 0, .int .i64 0, .slice A5 1 c5], .agg #[.int .u8 (b.k : Int), .int .u8 (b.o : Int), .int .u8 (b.t : Int), .int .i32 b.n, .int .i64 b.v, .slice B m d], .agg #[.int .u8 4, .int .u8 26, .int .u8 0, .int .i32 0, .int .i64 0, .slice A6 1 c6], .agg #[.int .u8 5, .int .u8 20, .int .u8 0, .int .i32 0, .int .i64 0, .slice A7 2 c7], .agg #[.int .u8 4, .int .u8 26, .int .u8 0, .int .i32 0, .int .i64 0, .slice A8 1 c8], x37, x38, x39, x40, x41, x42, x43, x44, x45, x46, x47, x48, x49, x50, x51, x52, x53, x54, x55, x56, x57, x58, x59, x60, x61, x62, x63, x64, x65, x66, x67, x68, x69, x70, x71, x72, x73, x74, x75, x76, x77, x78, x79, x80, x81, x82, x83, x84, x85, x86, x87, x88, x89, x90, x91, x92, x93, x94, x95, x96, x97, x98, x99, x100, x101, x102, x103, x104, x105, x106, x107, x108, x109, x110, x111, x112, x113, x114, x115, x116, x117, x118, x119, x120, x121, x122, x123, x124], defers := [] } : Act) X := by
    intro f g A1 c1 A2 c2 A3 c3 A4 c4 A5 c5 A6 c6 A7 c7 A8 c8 X F r4 r8 hHeld
    obtain ⟨hf, bf⟩ := F.out.a9 f rfl
    obtain ⟨hg, bg⟩ := F.out.a10 g rfl
    have hfg : g ≠ f := fun e => F.out.ne f rfl (by rw [e])
    have hx1 := kr_put r4.out (.inl rfl) (.int .u8 4) (.int .u8 26) (.int .u8 0) (.int .i32 0) (.int .i64 0) (.slice A4 1 c4)
    have hx2 := kr_put r8.out (.inl rfl) (.int .u8 4) (.int .u8 26) (.int .u8 0) (.int .i32 0) (.int .i64 0) (.slice A4 1 c4)
    unfold kz6 at bf bg
    have b1 := box6_all (.int .u8 4) (.int .u8 26) (.int .u8 0) (.int .i32 0) (.int .i64 0) (.slice A4 1 c4) bf
    have bg1 := (fr_set6 X f (.int .u8 4) (.int .u8 26) (.int .u8 0) (.int .i32 0) (.int .i64 0) (.slice A4 1 c4)).box bg hfg
    have w1 := bset6 F.out.b hf (.int .u8 4) (.int .u8 26) (.int .u8 0) (.int .i32 0) (.int .i64 0) (.slice A4 1 c4)
    obtain ⟨p0, p1, p2, p3, p4, p5⟩ := box6 bf
    obtain ⟨q0, q1, q2, q3, q4, q5⟩ := box6f bf
    refine wpAnyH_ready (rs := [14]) (by kernel_rfl) (by simp) ?_
    refine AllReadyH.cons (o := { dst := none, op := Op.store 45 (Operand.tmp 9) (Operand.tmp 30), type := 0, pos := "outright.go:151", after := #[{ on := 12, ground := Ground.data }, { on := 5, ground := Ground.data }, { on := 11, ground := Ground.chain }, { on := 0, ground := Ground.phase }, { on := 1, ground := Ground.phase }, { on := 2, ground := Ground.phase }, { on := 3, ground := Ground.phase }, { on := 4, ground := Ground.phase }, { on := 5, ground := Ground.phase }, { on := 6, ground := Ground.textOnly Departure.lateStores }, { on := 7, ground := Ground.textOnly Departure.lateStoresUnsure }, { on := 8, ground := Ground.textOnly Departure.lateStores }, { on := 9, ground := Ground.textOnly Departure.lateStoresUnsure }, { on := 10, ground := Ground.textOnly Departure.lateStoresUnsure }, { on := 11, ground := Ground.textOnly Departure.lateStoresUnsure }, { on := 12, ground := Ground.phase }, { on := 13, ground := Ground.phase }], guard := none }) rfl (fun K hK => ?_) AllReadyH.nil
    go_simp
    refine hK.out _ _ (HS.out _ w1) (fun hHeld2 => ?_)
    clear hK K p0 p1 p2 p3 p4 p5 q0 q1 q2 q3 q4 q5 bf bg F hHeld hHeld2
    try simp only [Act.put, List.setIfInBounds_toArray, List.set_cons_zero, List.set_cons_succ]
    change wpAnyH _ _ _ _ _ _ _ _ (set6 X f (.int .u8 4) (.int .u8 26) (.int .u8 0) (.int .i32 0) (.int .i64 0) (.slice A4 1 c4))
    generalize set6 X f (.int .u8 4) (.int .u8 26) (.int .u8 0) (.int .i32 0) (.int .i64 0) (.slice A4 1 c4) = Y at *
    have hy1 := kr_put hx1 (.inr rfl) (.int .u8 4) (.int .u8 26) (.int .u8 0) (.int .i32 0) (.int .i64 0) (.slice A8 1 c8)
    have hy2 := kr_put hx2 (.inr rfl) (.int .u8 4) (.int .u8 26) (.int .u8 0) (.int .i32 0) (.int .i64 0) (.slice A8 1 c8)
    have c1_ := (fr_set6 Y g (.int .u8 4) (.int .u8 26) (.int .u8 0) (.int .i32 0) (.int .i64 0) (.slice A8 1 c8)).box b1 (Ne.symm hfg)
    have c2_ := box6_all (.int .u8 4) (.int .u8 26) (.int .u8 0) (.int .i32 0) (.int .i64 0) (.slice A8 1 c8) bg1
    have w2 := bset6 w1 hg (.int .u8 4) (.int .u8 26) (.int .u8 0) (.int .i32 0) (.int .i64 0) (.slice A8 1 c8)
    obtain ⟨p0, p1, p2, p3, p4, p5⟩ := box6 bg1
    obtain ⟨q0, q1, q2, q3, q4, q5⟩ := box6f bg1
    refine wpAnyH_ready (rs := [15]) (by kernel_rfl) (by simp) ?_
    refine AllReadyH.cons (o := { dst := none, op := Op.store 45 (Operand.tmp 10) (Operand.tmp 36), type := 0, pos := "outright.go:151", after := #[{ on := 13, ground := Ground.data }, { on := 11, ground := Ground.data }, { on := 14, ground := Ground.chain }, { on := 0, ground := Ground.phase }, { on := 1, ground := Ground.phase }, { on := 2, ground := Ground.phase }, { on := 3, ground := Ground.phase }, { on := 4, ground := Ground.phase }, { on := 5, ground := Ground.phase }, { on := 6, ground := Ground.phase }, { on := 7, ground := Ground.phase }, { on := 8, ground := Ground.phase }, { on := 9, ground := Ground.phase }, { on := 10, ground := Ground.phase }, { on := 11, ground := Ground.phase }, { on := 12, ground := Ground.phase }, { on := 13, ground := Ground.phase }, { on := 14, ground := Ground.phase }], guard := none }) rfl (fun K hK => ?_) AllReadyH.nil
    go_simp
    refine hK.out _ _ (HS.out _ w2) (fun hHeld2 => ?_)
    try simp only [Act.put, List.setIfInBounds_toArray, List.set_cons_zero, List.set_cons_succ]
    refine wpAnyH_done (by kernel_rfl) ?_ _
    exact hQ f g A1 c1 A2 c2 A3 c3 A4 c4 A5 c5 A6 c6 A7 c7 A8 c8 _ w2 hf hg ⟨A4, c4, c1_, hy1.tr⟩ ⟨A8, c8, c2_, hy2.tr⟩
  have s810 : ∀ (f : Nat) (A1 : Option Addr) (c1 : Nat) (A2 : Option Addr) (c2 : Nat) (A3 : Option Addr) (c3 : Nat) (A4 : Option Addr) (c4 : Nat) (A5 : Option Addr) (c5 : Nat) (A6 : Option Addr) (c6 : Nat) (A7 : Option Addr) (c7 : Nat) (A8 : Option Addr) (c8 : Nat) (X : World), Hid (FlX w X (some f) none) → Hid (KrN X (NN (some f) none) A4 c4 [k2 21 (k1 26 a) (k1 26 b)]) → Hid (KrN X (NN (some f) none) A8 c8 [k2 20 (k1 26 a) (k1 26 b)]) → SB p q a b A B n m c d X → wpAnyH Tryd.prog .any opsM2 Q (SB p q a b A B n m c d) 3 #[true, true, true, true, true, true, true, true, true, true, true, true, true, false, false, false] ({ tmps := #[x0, x1, x2, x3, .pointer (some ⟨p, 0, none⟩), .pointer (some ⟨q, 0, none⟩), x6, x7, x8, .pointer (some ⟨f, 0, none⟩), undef, x11, x12, x13, x14, x15, x16, x17, x18, x19, x20, x21, x22, x23, x24, .agg #[.int .u8 (a.k : Int), .int .u8 (a.o : Int), .int .u8 (a.t : Int), .int .i32 a.n, .int .i64 a.v, .slice A n c], .agg #[.int .u8 4, .int .u8 26, .int .u8 0, .int .i32 0, .int .i64 0, .slice A1 1 c1], .agg #[.int .u8 (b.k : Int), .int .u8 (b.o : Int), .int .u8 (b.t : Int), .int .i32 b.n, .int .i64 b.v, .slice B m d], .agg #[.int .u8 4, .int .u8 26, .int .u8 0, .int .i32 0, .int .i64 0, .slice A2 1 c2], .agg #[.int .u8 5, .int .u8 21, .int .u8 0, .int .i32 0, .int .i64 0, .slice A3 2 c3], .agg #[.int .u8 4, .int .u8 26, .int .u8 0, .int .i32 0, .int .i64 0, .slice A4 1 c4], .agg #[.int .u8 (a.k : Int), .int .u8 (a.o : Int), .int .u8 (a.t : Int), .int .i32 a.n, .int .i64 a.v, .slice A n c], .agg #[.int .u8 4, .int .u8 26, .int .u8 0, .int .i32 0, .int .i64 0, .slice A5 1 c5], .agg #[.int .u8 (b.k : Int), .int .u8 (b.o : Int), .int .u8 (b.t : Int), .int .i32 b.n, .int .i64 b.v, .slice B m d], .agg #[.int .u8 4, .int .u8 26, .int .u8 0, .int .i32 0, .int .i64 0, .slice A6 1 c6], .agg #[.int .u8 5, .int .u8 20, .int .u8 0, .int .i32 0, .int .i64 0, .slice A7 2 c7], .agg #[.int .u8 4, .int .u8 26, .int .u8 0, .int .i32 0, .int .i64 0, .slice A8 1 c8], x37, x38, x39, x40, x41, x42, x43, x44, x45, x46, x47, x48, x49, x50, x51, x52, x53, x54, x55, x56, x57, x58, x59, x60, x61, x62, x63, x64, x65, x66, x67, x68, x69, x70, x71, x72, x73, x74, x75, x76, x77, x78, x79, x80, x81, x82, x83, x84, x85, x86, x87, x88, x89, x90, x91, x92, x93, x94, x95, x96, x97, x98, x99, x100, x101, x102, x103, x104, x105, x106, x107, x108, x109, x110, x111, x112, x113, x114, x115, x116, x117, x118, x119, x120, x121, x122, x123, x124], defers := [] } : Act) X := by
    intro f A1 c1 A2 c2 A3 c3 A4 c4 A5 c5 A6 c6 A7 c7 A8 c8 X F r4 r8 hHeld
    refine wpAnyH_ready (rs := [13]) (by kernel_rfl) (by simp) ?_
    refine AllReadyH.cons (o := { dst := some 10, op := Op.alloc 45, type := 0, pos := "outright.go:151", after := #[], guard := none }) rfl (fun K hK => ?_) ?_
    · go_simp
      have F2 := Lib.hid F.out.al10
      have hS2 := hHeld.keep (bal (b0 X) (.cells kz6 45))
      refine hK.out _ _ hS2 (fun hHeld2 => ?_)
      try simp only [Act.put, List.setIfInBounds_toArray, List.set_cons_zero, List.set_cons_succ]
      exact s811 f X.heap.size A1 c1 A2 c2 A3 c3 A4 c4 A5 c5 A6 c6 A7 c7 A8 c8 _ F2 (Lib.hid (kr_10 r4.out _)) (Lib.hid (kr_10 r8.out _)) hS2
    exact AllReadyH.nil
  have s801 : ∀ (g : Nat) (A1 : Option Addr) (c1 : Nat) (A2 : Option Addr) (c2 : Nat) (A3 : Option Addr) (c3 : Nat) (A4 : Option Addr) (c4 : Nat) (A5 : Option Addr) (c5 : Nat) (A6 : Option Addr) (c6 : Nat) (A7 : Option Addr) (c7 : Nat) (A8 : Option Addr) (c8 : Nat) (X : World), Hid (FlX w X none (some g)) → Hid (KrN X (NN none (some g)) A4 c4 [k2 21 (k1 26 a) (k1 26 b)]) → Hid (KrN X (NN none (some g)) A8 c8 [k2 20 (k1 26 a) (k1 26 b)]) → SB p q a b A B n m c d X → wpAnyH Tryd.prog .any opsM2 Q (SB p q a b A B n m c d) 3 #[true, true, true, true, true, true, true, true, true, true, true, true, false, true, false, false] ({ tmps := #[x0, x1, x2, x3, .pointer (some ⟨p, 0, none⟩), .pointer (some ⟨q, 0, none⟩), x6, x7, x8, undef, .pointer (some ⟨g, 0, none⟩), x11, x12, x13, x14, x15, x16, x17, x18, x19, x20, x21, x22, x23, x24, .agg #[.int .u8 (a.k : Int), .int .u8 (a.o : Int), .int .u8 (a.t : Int), .int .i32 a.n, .int .i64 a.v, .slice A n c], .agg #[.int .u8 4, .int .u8 26, .int .u8 0, .int .i32 0, .int .i64 0, .slice A1 1 c1], .agg #[.int .u8 (b.k : Int), .int .u8 (b.o : Int), .int .u8 (b.t : Int), .int .i32 b.n, .int .i64 b.v, .slice B m d], .agg #[.int .u8 4, .int .u8 26, .int .u8 0, .int .i32 0, .int .i64 0, .slice A2 1 c2], .agg #[.int .u8 5, .int .u8 21, .int .u8 0, .int .i32 0, .int .i64 0, .slice A3 2 c3], .agg #[.int .u8 4, .int .u8 26, .int .u8 0, .int .i32 0, .int .i64 0, .slice A4 1 c4], .agg #[.int .u8 (a.k : Int), .int .u8 (a.o : Int), .int .u8 (a.t : Int), .int .i32 a.n, .int .i64 a.v, .slice A n c], .agg #[.int .u8 4, .int .u8 26, .int .u8 0, .int .i32 0, .int .i64 0, .slice A5 1 c5], .agg #[.int .u8 (b.k : Int), .int .u8 (b.o : Int), .int .u8 (b.t : Int), .int .i32 b.n, .int .i64 b.v, .slice B m d], .agg #[.int .u8 4, .int .u8 26, .int .u8 0, .int .i32 0, .int .i64 0, .slice A6 1 c6], .agg #[.int .u8 5, .int .u8 20, .int .u8 0, .int .i32 0, .int .i64 0, .slice A7 2 c7], .agg #[.int .u8 4, .int .u8 26, .int .u8 0, .int .i32 0, .int .i64 0, .slice A8 1 c8], x37, x38, x39, x40, x41, x42, x43, x44, x45, x46, x47, x48, x49, x50, x51, x52, x53, x54, x55, x56, x57, x58, x59, x60, x61, x62, x63, x64, x65, x66, x67, x68, x69, x70, x71, x72, x73, x74, x75, x76, x77, x78, x79, x80, x81, x82, x83, x84, x85, x86, x87, x88, x89, x90, x91, x92, x93, x94, x95, x96, x97, x98, x99, x100, x101, x102, x103, x104, x105, x106, x107, x108, x109, x110, x111, x112, x113, x114, x115, x116, x117, x118, x119, x120, x121, x122, x123, x124], defers := [] } : Act) X := by
    intro g A1 c1 A2 c2 A3 c3 A4 c4 A5 c5 A6 c6 A7 c7 A8 c8 X F r4 r8 hHeld
    refine wpAnyH_ready (rs := [12]) (by kernel_rfl) (by simp) ?_
    refine AllReadyH.cons (o := { dst := some 9, op := Op.alloc 45, type := 0, pos := "outright.go:151", after := #[], guard := none }) rfl (fun K hK => ?_) ?_
    · go_simp
      have F2 := Lib.hid F.out.al9
      have hS2 := hHeld.keep (bal (b0 X) (.cells kz6 45))
      refine hK.out _ _ hS2 (fun hHeld2 => ?_)
      try simp only [Act.put, List.setIfInBounds_toArray, List.set_cons_zero, List.set_cons_succ]
      exact s811 X.heap.size g A1 c1 A2 c2 A3 c3 A4 c4 A5 c5 A6 c6 A7 c7 A8 c8 _ F2 (Lib.hid (kr_9 r4.out _)) (Lib.hid (kr_9 r8.out _)) hS2
    exact AllReadyH.nil
  have s800 : ∀  (A1 : Option Addr) (c1 : Nat) (A2 : Option Addr) (c2 : Nat) (A3 : Option Addr) (c3 : Nat) (A4 : Option Addr) (c4 : Nat) (A5 : Option Addr) (c5 : Nat) (A6 : Option Addr) (c6 : Nat) (A7 : Option Addr) (c7 : Nat) (A8 : Option Addr) (c8 : Nat) (X : World), Hid (FlX w X none none) → Hid (KrN X (NN none none) A4 c4 [k2 21 (k1 26 a) (k1 26 b)]) → Hid (KrN X (NN none none) A8 c8 [k2 20 (k1 26 a) (k1 26 b)]) → SB p q a b A B n m c d X → wpAnyH Tryd.prog .any opsM2 Q (SB p q a b A B n m c d) 4 #[true, true, true, true, true, true, true, true, true, true, true, true, false, false, false, false] ({ tmps := #[x0, x1, x2, x3, .pointer (some ⟨p, 0, none⟩), .pointer (some ⟨q, 0, none⟩), x6, x7, x8, undef, undef, x11, x12, x13, x14, x15, x16, x17, x18, x19, x20, x21, x22, x23, x24, .agg #[.int .u8 (a.k : Int), .int .u8 (a.o : Int), .int .u8 (a.t : Int), .int .i32 a.n, .int .i64 a.v, .slice A n c], .agg #[.int .u8 4, .int .u8 26, .int .u8 0, .int .i32 0, .int .i64 0, .slice A1 1 c1], .agg #[.int .u8 (b.k : Int), .int .u8 (b.o : Int), .int .u8 (b.t : Int), .int .i32 b.n, .int .i64 b.v, .slice B m d], .agg #[.int .u8 4, .int .u8 26, .int .u8 0, .int .i32 0, .int .i64 0, .slice A2 1 c2], .agg #[.int .u8 5, .int .u8 21, .int .u8 0, .int .i32 0, .int .i64 0, .slice A3 2 c3], .agg #[.int .u8 4, .int .u8 26, .int .u8 0, .int .i32 0, .int .i64 0, .slice A4 1 c4], .agg #[.int .u8 (a.k : Int), .int .u8 (a.o : Int), .int .u8 (a.t : Int), .int .i32 a.n, .int .i64 a.v, .slice A n c], .agg #[.int .u8 4, .int .u8 26, .int .u8 0, .int .i32 0, .int .i64 0, .slice A5 1 c5], .agg #[.int .u8 (b.k : Int), .int .u8 (b.o : Int), .int .u8 (b.t : Int), .int .i32 b.n, .int .i64 b.v, .slice B m d], .agg #[.int .u8 4, .int .u8 26, .int .u8 0, .int .i32 0, .int .i64 0, .slice A6 1 c6], .agg #[.int .u8 5, .int .u8 20, .int .u8 0, .int .i32 0, .int .i64 0, .slice A7 2 c7], .agg #[.int .u8 4, .int .u8 26, .int .u8 0, .int .i32 0, .int .i64 0, .slice A8 1 c8], x37, x38, x39, x40, x41, x42, x43, x44, x45, x46, x47, x48, x49, x50, x51, x52, x53, x54, x55, x56, x57, x58, x59, x60, x61, x62, x63, x64, x65, x66, x67, x68, x69, x70, x71, x72, x73, x74, x75, x76, x77, x78, x79, x80, x81, x82, x83, x84, x85, x86, x87, x88, x89, x90, x91, x92, x93, x94, x95, x96, x97, x98, x99, x100, x101, x102, x103, x104, x105, x106, x107, x108, x109, x110, x111, x112, x113, x114, x115, x116, x117, x118, x119, x120, x121, x122, x123, x124], defers := [] } : Act) X := by
    intro  A1 c1 A2 c2 A3 c3 A4 c4 A5 c5 A6 c6 A7 c7 A8 c8 X F r4 r8 hHeld
    refine wpAnyH_ready (rs := [12, 13]) (by kernel_rfl) (by simp) ?_
    refine AllReadyH.cons (o := { dst := some 9, op := Op.alloc 45, type := 0, pos := "outright.go:151", after := #[], guard := none }) rfl (fun K hK => ?_) ?_
    · go_simp
      have F2 := Lib.hid F.out.al9
      have hS2 := hHeld.keep (bal (b0 X) (.cells kz6 45))
      refine hK.out _ _ hS2 (fun hHeld2 => ?_)
      try simp only [Act.put, List.setIfInBounds_toArray, List.set_cons_zero, List.set_cons_succ]
      exact s810 X.heap.size A1 c1 A2 c2 A3 c3 A4 c4 A5 c5 A6 c6 A7 c7 A8 c8 _ F2 (Lib.hid (kr_9 r4.out _)) (Lib.hid (kr_9 r8.out _)) hS2
    refine AllReadyH.cons (o := { dst := some 10, op := Op.alloc 45, type := 0, pos := "outright.go:151", after := #[], guard := none }) rfl (fun K hK => ?_) ?_
    · go_simp
      have F2 := Lib.hid F.out.al10
      have hS2 := hHeld.keep (bal (b0 X) (.cells kz6 45))
      refine hK.out _ _ hS2 (fun hHeld2 => ?_)
      try simp only [Act.put, List.setIfInBounds_toArray, List.set_cons_zero, List.set_cons_succ]
      exact s801 X.heap.size A1 c1 A2 c2 A3 c3 A4 c4 A5 c5 A6 c6 A7 c7 A8 c8 _ F2 (Lib.hid (kr_10 r4.out _)) (Lib.hid (kr_10 r8.out _)) hS2
    exact AllReadyH.nil
  have s711 : ∀ (f : Nat) (g : Nat) (A1 : Option Addr) (c1 : Nat) (A2 : Option Addr) (c2 : Nat) (A3 : Option Addr) (c3 : Nat) (A4 : Option Addr) (c4 : Nat) (A5 : Option Addr) (c5 : Nat) (A6 : Option Addr) (c6 : Nat) (A7 : Option Addr) (c7 : Nat) (X : World), Hid (FlX w X (some f) (some g)) → Hid (KrN X (NN (some f) (some g)) A4 c4 [k2 21 (k1 26 a) (k1 26 b)]) → Hid (KrN X (NN (some f) (some g)) A7 c7 [k1 26 a, k1 26 b]) → SB p q a b A B n m c d X → wpAnyH Tryd.prog .any opsM2 Q (SB p q a b A B n m c d) 3 #[true, true, true, true, true, true, true, true, true, true, true, false, true, true, false, false] ({ tmps := #[x0, x1, x2, x3, .pointer (some ⟨p, 0, none⟩), .pointer (some ⟨q, 0, none⟩), x6, x7, x8, .pointer (some ⟨f, 0, none⟩), .pointer (some ⟨g, 0, none⟩), x11, x12, x13, x14, x15, x16, x17, x18, x19, x20, x21, x22, x23, x24, .agg #[.int .u8 (a.k : Int), .int .u8 (a.o : Int), .int .u8 (a.t : Int), .int .i32 a.n, .int .i64 a.v, .slice A n c], .agg #[.int .u8 4, .int .u8 26, .int .u8 0, .int .i32 0, .int .i64 0, .slice A1 1 c1], .agg #[.int .u8 (b.k : Int), .int .u8 (b.o : Int), .int .u8 (b.t : Int), .int .i32 b.n, .int .i64 b.v, .slice B m d], .agg #[.int .u8 4, .int .u8 26, .int .u8 0, .int .i32 0, .int .i64 0, .slice A2 1 c2], .agg #[.int .u8 5, .int .u8 21, .int .u8 0, .int .i32 0, .int .i64 0, .slice A3 2 c3], .agg #[.int .u8 4, .int .u8 26, .int .u8 0, .int .i32 0, .int .i64 0, .slice A4 1 c4], .agg #[.int .u8 (a.k : Int), .int .u8 (a.o : Int), .int .u8 (a.t : Int), .int .i32 a.n, .int .i64 a.v, .slice A n c], .agg #[.int .u8 4, .int .u8 26, .int .u8 0, .int .i32 0, .int .i64 0, .slice A5 1 c5], .agg #[.int .u8 (b.k : Int), .int .u8 (b.o : Int), .int .u8 (b.t : Int), .int .i32 b.n, .int .i64 b.v, .slice B m d], .agg #[.int .u8 4, .int .u8 26, .int .u8 0, .int .i32 0, .int .i64 0, .slice A6 1 c6], .agg #[.int .u8 5, .int .u8 20, .int .u8 0, .int .i32 0, .int .i64 0, .slice A7 2 c7], undef, x37, x38, x39, x40, x41, x42, x43, x44, x45, x46, x47, x48, x49, x50, x51, x52, x53, x54, x55, x56, x57, x58, x59, x60, x61, x62, x63, x64, x65, x66, x67, x68, x69, x70, x71, x72, x73, x74, x75, x76, x77, x78, x79, x80, x81, x82, x83, x84, x85, x86, x87, x88, x89, x90, x91, x92, x93, x94, x95, x96, x97, x98, x99, x100, x101, x102, x103, x104, x105, x106, x107, x108, x109, x110, x111, x112, x113, x114, x115, x116, x117, x118, x119, x120, x121, x122, x123, x124], defers := [] } : Act) X := by
    intro f g A1 c1 A2 c2 A3 c3 A4 c4 A5 c5 A6 c6 A7 c7 X F r4 r7 hHeld
    refine wpAnyH_ready (rs := [11]) (by kernel_rfl) (by simp) ?_
    refine AllReadyH.cons (o := { dst := some 36, op := Op.call { callee := Callee.value (Operand.func 33), args := #[Operand.tmp 35], argTypes := #[45] }, type := 45, pos := "outright.go:151", after := #[{ on := 10, ground := Ground.data }, { on := 10, ground := Ground.chain }], guard := none }) rfl (fun K hK => ?_) ?_
    · go_simp
      go_at_call 33
      (with_reducible refine (D8.out _ _ _ _ _ F.out r7.out).mono ?_)
      rintro e u ⟨A8, c8, rfl, t, bb⟩
      have F2 := Lib.hid (F.out.step bb)
      have hS2 := hHeld.keep bb
      refine hK.out _ _ hS2 (fun hHeld2 => ?_)
      try simp only [Act.put, List.setIfInBounds_toArray, List.set_cons_zero, List.set_cons_succ]
      exact s811 f g A1 c1 A2 c2 A3 c3 A4 c4 A5 c5 A6 c6 A7 c7 A8 c8 u F2 (Lib.hid (r4.out.keep bb)) (Lib.hid t) hS2
    exact AllReadyH.nil
  have s710 : ∀ (f : Nat) (A1 : Option Addr) (c1 : Nat) (A2 : Option Addr) (c2 : Nat) (A3 : Option Addr) (c3 : Nat) (A4 : Option Addr) (c4 : Nat) (A5 : Option Addr) (c5 : Nat) (A6 : Option Addr) (c6 : Nat) (A7 : Option Addr) (c7 : Nat) (X : World), Hid (FlX w X (some f) none) → Hid (KrN X (NN (some f) none) A4 c4 [k2 21 (k1 26 a) (k1 26 b)]) → Hid (KrN X (NN (some f) none) A7 c7 [k1 26 a, k1 26 b]) → SB p q a b A B n m c d X → wpAnyH Tryd.prog .any opsM2 Q (SB p q a b A B n m c d) 4 #[true, true, true, true, true, true, true, true, true, true, true, false, true, false, false, false] ({ tmps := #[x0, x1, x2, x3, .pointer (some ⟨p, 0, none⟩), .pointer (some ⟨q, 0, none⟩), x6, x7, x8, .pointer (some ⟨f, 0, none⟩), undef, x11, x12, x13, x14, x15, x16, x17, x18, x19, x20, x21, x22, x23, x24, .agg #[.int .u8 (a.k : Int), .int .u8 (a.o : Int), .int .u8 (a.t : Int), .int .i32 a.n, .int .i64 a.v, .slice A n c], .agg #[.int .u8 4, .int .u8 26, .int .u8 0, .int .i32 0, .int .i64 0, .slice A1 1 c1], .agg #[.int .u8 (b.k : Int), .int .u8 (b.o : Int), .int .u8 (b.t : Int), .int .i32 b.n, .int .i64 b.v, .slice B m d], .agg #[.int .u8 4, .int .u8 26, .int .u8 0, .int .i32 0, .int .i64 0, .slice A2 1 c2], .agg #[.int .u8 5, .int .u8 21, .int .u8 0, .int .i32 0, .int .i64 0, .slice A3 2 c3], .agg #[.int .u8 4, .int .u8 26, .int .u8 0, .int .i32 0, .int .i64 0, .slice A4 1 c4], .agg #[.int .u8 (a.k : Int), .int .u8 (a.o : Int), .int .u8 (a.t : Int), .int .i32 a.n, .int .i64 a.v, .slice A n c], .agg #[.int .u8 4, .int .u8 26, .int .u8 0, .int .i32 0, .int .i64 0, .slice A5 1 c5], .agg #[.int .u8 (b.k : Int), .int .u8 (b.o : Int), .int .u8 (b.t : Int), .int .i32 b.n, .int .i64 b.v, .slice B m d], .agg #[.int .u8 4, .int .u8 26, .int .u8 0, .int .i32 0, .int .i64 0, .slice A6 1 c6], .agg #[.int .u8 5, .int .u8 20, .int .u8 0, .int .i32 0, .int .i64 0, .slice A7 2 c7], undef, x37, x38, x39, x40, x41, x42, x43, x44, x45, x46, x47, x48, x49, x50, x51, x52, x53, x54, x55, x56, x57, x58, x59, x60, x61, x62, x63, x64, x65, x66, x67, x68, x69, x70, x71, x72, x73, x74, x75, x76, x77, x78, x79, x80, x81, x82, x83, x84, x85, x86, x87, x88, x89, x90, x91, x92, x93, x94, x95, x96, x97, x98, x99, x100, x101, x102, x103, x104, x105, x106, x107, x108, x109, x110, x111, x112, x113, x114, x115, x116, x117, x118, x119, x120, x121, x122, x123, x124], defers := [] } : Act) X := by
    intro f A1 c1 A2 c2 A3 c3 A4 c4 A5 c5 A6 c6 A7 c7 X F r4 r7 hHeld
    refine wpAnyH_ready (rs := [11, 13]) (by kernel_rfl) (by simp) ?_
    refine AllReadyH.cons (o := { dst := some 36, op := Op.call { callee := Callee.value (Operand.func 33), args := #[Operand.tmp 35], argTypes := #[45] }, type := 45, pos := "outright.go:151", after := #[{ on := 10, ground := Ground.data }, { on := 10, ground := Ground.chain }], guard := none }) rfl (fun K hK => ?_) ?_
    · go_simp
      go_at_call 33
      (with_reducible refine (D8.out _ _ _ _ _ F.out r7.out).mono ?_)
      rintro e u ⟨A8, c8, rfl, t, bb⟩
      have F2 := Lib.hid (F.out.step bb)
      have hS2 := hHeld.keep bb
      refine hK.out _ _ hS2 (fun hHeld2 => ?_)
      try simp only [Act.put, List.setIfInBounds_toArray, List.set_cons_zero, List.set_cons_succ]
      exact s810 f A1 c1 A2 c2 A3 c3 A4 c4 A5 c5 A6 c6 A7 c7 A8 c8 u F2 (Lib.hid (r4.out.keep bb)) (Lib.hid t) hS2
    refine AllReadyH.cons (o := { dst := some 10, op := Op.alloc 45, type := 0, pos := "outright.go:151", after := #[], guard := none }) rfl (fun K hK => ?_) ?_
    · go_simp
      have F2 := Lib.hid F.out.al10
      have hS2 := hHeld.keep (bal (b0 X) (.cells kz6 45))
      refine hK.out _ _ hS2 (fun hHeld2 => ?_)
      try simp only [Act.put, List.setIfInBounds_toArray, List.set_cons_zero, List.set_cons_succ]
      exact s711 f X.heap.size A1 c1 A2 c2 A3 c3 A4 c4 A5 c5 A6 c6 A7 c7 _ F2 (Lib.hid (kr_10 r4.out _)) (Lib.hid (kr_10 r7.out _)) hS2
    exact AllReadyH.nil
  have s701 : ∀ (g : Nat) (A1 : Option Addr) (c1 : Nat) (A2 : Option Addr) (c2 : Nat) (A3 : Option Addr) (c3 : Nat) (A4 : Option Addr) (c4 : Nat) (A5 : Option Addr) (c5 : Nat) (A6 : Option Addr) (c6 : Nat) (A7 : Option Addr) (c7 : Nat) (X : World), Hid (FlX w X none (some g)) → Hid (KrN X (NN none (some g)) A4 c4 [k2 21 (k1 26 a) (k1 26 b)]) → Hid (KrN X (NN none (some g)) A7 c7 [k1 26 a, k1 26 b]) → SB p q a b A B n m c d X → wpAnyH Tryd.prog .any opsM2 Q (SB p q a b A B n m c d) 4 #[true, true, true, true, true, true, true, true, true, true, true, false, false, true, false, false] ({ tmps := #[x0, x1, x2, x3, .pointer (some ⟨p, 0, none⟩), .pointer (some ⟨q, 0, none⟩), x6, x7, x8, undef, .pointer (some ⟨g, 0, none⟩), x11, x12, x13, x14, x15, x16, x17, x18, x19, x20, x21, x22, x23, x24, .agg #[.int .u8 (a.k : Int), .int .u8 (a.o : Int), .int .u8 (a.t : Int), .int .i32 a.n, .int .i64 a.v, .slice A n c], .agg #[.int .u8 4, .int .u8 26, .int .u8 0, .int .i32 0, .int .i64 0, .slice A1 1 c1], .agg #[.int .u8 (b.k : Int), .int .u8 (b.o : Int), .int .u8 (b.t : Int), .int .i32 b.n, .int .i64 b.v, .slice B m d], .agg #[.int .u8 4, .int .u8 26, .int .u8 0, .int .i32 0, .int .i64 0, .slice A2 1 c2], .agg #[.int .u8 5, .int .u8 21, .int .u8 0, .int .i32 0, .int .i64 0, .slice A3 2 c3], .agg #[.int .u8 4, .int .u8 26, .int .u8 0, .int .i32 0, .int .i64 0, .slice A4 1 c4], .agg #[.int .u8 (a.k : Int), .int .u8 (a.o : Int), .int .u8 (a.t : Int), .int .i32 a.n, .int .i64 a.v, .slice A n c], .agg #[.int .u8 4, .int .u8 26, .int .u8 0, .int .i32 0, .int .i64 0, .slice A5 1 c5], .agg #[.int .u8 (b.k : Int), .int .u8 (b.o : Int), .int .u8 (b.t : Int), .int .i32 b.n, .int .i64 b.v, .slice B m d], .agg #[.int .u8 4, .int .u8 26, .int .u8 0, .int .i32 0, .int .i64 0, .slice A6 1 c6], .agg #[.int .u8 5, .int .u8 20, .int .u8 0, .int .i32 0, .int .i64 0, .slice A7 2 c7], undef, x37, x38, x39, x40, x41, x42, x43, x44, x45, x46, x47, x48, x49, x50, x51, x52, x53, x54, x55, x56, x57, x58, x59, x60, x61, x62, x63, x64, x65, x66, x67, x68, x69, x70, x71, x72, x73, x74, x75, x76, x77, x78, x79, x80, x81, x82, x83, x84, x85, x86, x87, x88, x89, x90, x91, x92, x93, x94, x95, x96, x97, x98, x99, x100, x101, x102, x103, x104, x105, x106, x107, x108, x109, x110, x111, x112, x113, x114, x115, x116, x117, x118, x119, x120, x121, x122, x123, x124], defers := [] } : Act) X := by
    intro g A1 c1 A2 c2 A3 c3 A4 c4 A5 c5 A6 c6 A7 c7 X F r4 r7 hHeld
    refine wpAnyH_ready (rs := [11, 12]) (by kernel_rfl) (by simp) ?_
    refine AllReadyH.cons (o := { dst := some 36, op := Op.call { callee := Callee.value (Operand.func 33), args := #[Operand.tmp 35], argTypes := #[45] }, type := 45, pos := "outright.go:151", after := #[{ on := 10, ground := Ground.data }, { on := 10, ground := Ground.chain }], guard := none }) rfl (fun K hK => ?_) ?_
    · go_simp
      go_at_call 33
      (with_reducible refine (D8.out _ _ _ _ _ F.out r7.out).mono ?_)
      rintro e u ⟨A8, c8, rfl, t, bb⟩
      have F2 := Lib.hid (F.out.step bb)
      have hS2 := hHeld.keep bb
      refine hK.out _ _ hS2 (fun hHeld2 => ?_)
      try simp only [Act.put, List.setIfInBounds_toArray, List.set_cons_zero, List.set_cons_succ]
      exact s801 g A1 c1 A2 c2 A3 c3 A4 c4 A5 c5 A6 c6 A7 c7 A8 c8 u F2 (Lib.hid (r4.out.keep bb)) (Lib.hid t) hS2
    refine AllReadyH.cons (o := { dst := some 9, op := Op.alloc 45, type := 0, pos := "outright.go:151", after := #[], guard := none }) rfl (fun K hK => ?_) ?_
    · go_simp
      have F2 := Lib.hid F.out.al9
      have hS2 := hHeld.keep (bal (b0 X) (.cells kz6 45))
      refine hK.out _ _ hS2 (fun hHeld2 => ?_)
      try simp only [Act.put, List.setIfInBounds_toArray, List.set_cons_zero, List.set_cons_succ]
      exact s711 X.heap.size g A1 c1 A2 c2 A3 c3 A4 c4 A5 c5 A6 c6 A7 c7 _ F2 (Lib.hid (kr_9 r4.out _)) (Lib.hid (kr_9 r7.out _)) hS2
    exact AllReadyH.nil
  have s700 : ∀  (A1 : Option Addr) (c1 : Nat) (A2 : Option Addr) (c2 : Nat) (A3 : Option Addr) (c3 : Nat) (A4 : Option Addr) (c4 : Nat) (A5 : Option Addr) (c5 : Nat) (A6 : Option Addr) (c6 : Nat) (A7 : Option Addr) (c7 : Nat) (X : World), Hid (FlX w X none none) → Hid (KrN X (NN none none) A4 c4 [k2 21 (k1 26 a) (k1 26 b)]) → Hid (KrN X (NN none none) A7 c7 [k1 26 a, k1 26 b]) → SB p q a b A B n m c d X → wpAnyH Tryd.prog .any opsM2 Q (SB p q a b A B n m c d) 5 #[true, true, true, true, true, true, true, true, true, true, true, false, false, false, false, false] ({ tmps := #[x0, x1, x2, x3, .pointer (some ⟨p, 0, none⟩), .pointer (some ⟨q, 0, none⟩), x6, x7, x8, undef, undef, x11, x12, x13, x14, x15, x16, x17, x18, x19, x20, x21, x22, x23, x24, .agg #[.int .u8 (a.k : Int), .int .u8 (a.o : Int), .int .u8 (a.t : Int), .int .i32 a.n, .int .i64 a.v, .slice A n c], .agg #[.int .u8 4, .int .u8 26, .int .u8 0, .int .i32 0, .int .i64 0, .slice A1 1 c1], .agg #[.int .u8 (b.k : Int), .int .u8 (b.o : Int), .int .u8 (b.t : Int), .int .i32 b.n, .int .i64 b.v, .slice B m d], .agg #[.int .u8 4, .int .u8 26, .int .u8 0, .int .i32 0, .int .i64 0, .slice A2 1 c2], .agg #[.int .u8 5, .int .u8 21, .int .u8 0, .int .i32 0, .int .i64 0, .slice A3 2 c3], .agg #[.int .u8 4, .int .u8 26, .int .u8 0, .int .i32 0, .int .i64 0, .slice A4 1 c4], .agg #[.int .u8 (a.k : Int), .int .u8 (a.o : Int), .int .u8 (a.t : Int), .int .i32 a.n, .int .i64 a.v, .slice A n c], .agg #[.int .u8 4, .int .u8 26, .int .u8 0, .int .i32 0, .int .i64 0, .slice A5 1 c5], .agg #[.int .u8 (b.k : Int), .int .u8 (b.o : Int), .int .u8 (b.t : Int), .int .i32 b.n, .int .i64 b.v, .slice B m d], .agg #[.int .u8 4, .int .u8 26, .int .u8 0, .int .i32 0, .int .i64 0, .slice A6 1 c6], .agg #[.int .u8 5, .int .u8 20, .int .u8 0, .int .i32 0, .int .i64 0, .slice A7 2 c7], undef, x37, x38, x39, x40, x41, x42, x43, x44, x45, x46, x47, x48, x49, x50, x51, x52, x53, x54, x55, x56, x57, x58, x59, x60, x61, x62, x63, x64, x65, x66, x67, x68, x69, x70, x71, x72, x73, x74, x75, x76, x77, x78, x79, x80, x81, x82, x83, x84, x85, x86, x87, x88, x89, x90, x91, x92, x93, x94, x95, x96, x97, x98, x99, x100, x101, x102, x103, x104, x105, x106, x107, x108, x109, x110, x111, x112, x113, x114, x115, x116, x117, x118, x119, x120, x121, x122, x123, x124], defers := [] } : Act) X := by
    intro  A1 c1 A2 c2 A3 c3 A4 c4 A5 c5 A6 c6 A7 c7 X F r4 r7 hHeld
    refine wpAnyH_ready (rs := [11, 12, 13]) (by kernel_rfl) (by simp) ?_
    refine AllReadyH.cons (o := { dst := some 36, op := Op.call { callee := Callee.value (Operand.func 33), args := #[Operand.tmp 35], argTypes := #[45] }, type := 45, pos := "outright.go:151", after := #[{ on := 10, ground := Ground.data }, { on := 10, ground := Ground.chain }], guard := none }) rfl (fun K hK => ?_) ?_
    · go_simp
      go_at_call 33
      (with_reducible refine (D8.out _ _ _ _ _ F.out r7.out).mono ?_)
      rintro e u ⟨A8, c8, rfl, t, bb⟩
      have F2 := Lib.hid (F.out.step bb)
      have hS2 := hHeld.keep bb
      refine hK.out _ _ hS2 (fun hHeld2 => ?_)
      try simp only [Act.put, List.setIfInBounds_toArray, List.set_cons_zero, List.set_cons_succ]
      exact s800  A1 c1 A2 c2 A3 c3 A4 c4 A5 c5 A6 c6 A7 c7 A8 c8 u F2 (Lib.hid (r4.out.keep bb)) (Lib.hid t) hS2
    refine AllReadyH.cons (o := { dst := some 9, op := Op.alloc 45, type := 0, pos := "outright.go:151", after := #[], guard := none }) rfl (fun K hK => ?_) ?_
    · go_simp
      have F2 := Lib.hid F.out.al9
      have hS2 := hHeld.keep (bal (b0 X) (.cells kz6 45))
      refine hK.out _ _ hS2 (fun hHeld2 => ?_)
      try simp only [Act.put, List.setIfInBounds_toArray, List.set_cons_zero, List.set_cons_succ]
      exact s710 X.heap.size A1 c1 A2 c2 A3 c3 A4 c4 A5 c5 A6 c6 A7 c7 _ F2 (Lib.hid (kr_9 r4.out _)) (Lib.hid (kr_9 r7.out _)) hS2
    refine AllReadyH.cons (o := { dst := some 10, op := Op.alloc 45, type := 0, pos := "outright.go:151", after := #[], guard := none }) rfl (fun K hK => ?_) ?_
    · go_simp
      have F2 := Lib.hid F.out.al10
      have hS2 := hHeld.keep (bal (b0 X) (.cells kz6 45))
      refine hK.out _ _ hS2 (fun hHeld2 => ?_)
      try simp only [Act.put, List.setIfInBounds_toArray, List.set_cons_zero, List.set_cons_succ]
      exact s701 X.heap.size A1 c1 A2 c2 A3 c3 A4 c4 A5 c5 A6 c6 A7 c7 _ F2 (Lib.hid (kr_10 r4.out _)) (Lib.hid (kr_10 r7.out _)) hS2
    exact AllReadyH.nil
  have s611 : ∀ (f : Nat) (g : Nat) (A1 : Option Addr) (c1 : Nat) (A2 : Option Addr) (c2 : Nat) (A3 : Option Addr) (c3 : Nat) (A4 : Option Addr) (c4 : Nat) (A5 : Option Addr) (c5 : Nat) (A6 : Option Addr) (c6 : Nat) (X : World), Hid (FlX w X (some f) (some g)) → Hid (KrN X (NN (some f) (some g)) A4 c4 [k2 21 (k1 26 a) (k1 26 b)]) → Hid (KrN X (NN (some f) (some g)) A5 c5 [a]) → Hid (KrN X (NN (some f) (some g)) A6 c6 [b]) → SB p q a b A B n m c d X → wpAnyH Tryd.prog .any opsM2 Q (SB p q a b A B n m c d) 4 #[true, true, true, true, true, true, true, true, true, true, false, false, true, true, false, false] ({ tmps := #[x0, x1, x2, x3, .pointer (some ⟨p, 0, none⟩), .pointer (some ⟨q, 0, none⟩), x6, x7, x8, .pointer (some ⟨f, 0, none⟩), .pointer (some ⟨g, 0, none⟩), x11, x12, x13, x14, x15, x16, x17, x18, x19, x20, x21, x22, x23, x24, .agg #[.int .u8 (a.k : Int), .int .u8 (a.o : Int), .int .u8 (a.t : Int), .int .i32 a.n, .int .i64 a.v, .slice A n c], .agg #[.int .u8 4, .int .u8 26, .int .u8 0, .int .i32 0, .int .i64 0, .slice A1 1 c1], .agg #[.int .u8 (b.k : Int), .int .u8 (b.o : Int), .int .u8 (b.t : Int), .int .i32 b.n, .int .i64 b.v, .slice B m d], .agg #[.int .u8 4, .int .u8 26, .int .u8 0, .int .i32 0, .int .i64 0, .slice A2 1 c2], .agg #[.int .u8 5, .int .u8 21, .int .u8 0, .int .i32 0, .int .i64 0, .slice A3 2 c3], .agg #[.int .u8 4, .int .u8 26, .int .u8 0, .int .i32 0, .int .i64 0, .slice A4 1 c4], .agg #[.int .u8 (a.k : Int), .int .u8 (a.o : Int), .int .u8 (a.t : Int), .int .i32 a.n, .int .i64 a.v, .slice A n c], .agg #[.int .u8 4, .int .u8 26, .int .u8 0, .int .i32 0, .int .i64 0, .slice A5 1 c5], .agg #[.int .u8 (b.k : Int), .int .u8 (b.o : Int), .int .u8 (b.t : Int), .int .i32 b.n, .int .i64 b.v, .slice B m d], .agg #[.int .u8 4, .int .u8 26, .int .u8 0, .int .i32 0, .int .i64 0, .slice A6 1 c6], undef, undef, x37, x38, x39, x40, x41, x42, x43, x44, x45, x46, x47, x48, x49, x50, x51, x52, x53, x54, x55, x56, x57, x58, x59, x60, x61, x62, x63, x64, x65, x66, x67, x68, x69, x70, x71, x72, x73, x74, x75, x76, x77, x78, x79, x80, x81, x82, x83, x84, x85, x86, x87, x88, x89, x90, x91, x92, x93, x94, x95, x96, x97, x98, x99, x100, x101, x102, x103, x104, x105, x106, x107, x108, x109, x110, x111, x112, x113, x114, x115, x116, x117, x118, x119, x120, x121, x122, x123, x124], defers := [] } : Act) X := by
    intro f g A1 c1 A2 c2 A3 c3 A4 c4 A5 c5 A6 c6 X F r4 r5 r6 hHeld
    refine wpAnyH_ready (rs := [10]) (by kernel_rfl) (by simp) ?_
    refine AllReadyH.cons (o := { dst := some 35, op := Op.call { callee := Callee.value (Operand.func 32), args := #[Operand.const (Value.int IntKind.u8 20), Operand.tmp 32, Operand.tmp 34], argTypes := #[43, 45, 45] }, type := 45, pos := "outright.go:151", after := #[{ on := 7, ground := Ground.data }, { on := 9, ground := Ground.data }, { on := 9, ground := Ground.chain }], guard := none }) rfl (fun K hK => ?_) ?_
    · go_simp
      go_at_call 32
      (with_reducible refine (D7.out _ _ _ _ _ _ _ F.out r5.out r6.out).mono ?_)
      rintro e u ⟨A7, c7, rfl, t, bb⟩
      have F2 := Lib.hid (F.out.step bb)
      have hS2 := hHeld.keep bb
      refine hK.out _ _ hS2 (fun hHeld2 => ?_)
      try simp only [Act.put, List.setIfInBounds_toArray, List.set_cons_zero, List.set_cons_succ]
      exact s711 f g A1 c1 A2 c2 A3 c3 A4 c4 A5 c5 A6 c6 A7 c7 u F2 (Lib.hid (r4.out.keep bb)) (Lib.hid t) hS2
    exact AllReadyH.nil
  have s610 : ∀ (f : Nat) (A1 : Option Addr) (c1 : Nat) (A2 : Option Addr) (c2 : Nat) (A3 : Option Addr) (c3 : Nat) (A4 : Option Addr) (c4 : Nat) (A5 : Option Addr) (c5 : Nat) (A6 : Option Addr) (c6 : Nat) (X : World), Hid (FlX w X (some f) none) → Hid (KrN X (NN (some f) none) A4 c4 [k2 21 (k1 26 a) (k1 26 b)]) → Hid (KrN X (NN (some f) none) A5 c5 [a]) → Hid (KrN X (NN (some f) none) A6 c6 [b]) → SB p q a b A B n m c d X → wpAnyH Tryd.prog .any opsM2 Q (SB p q a b A B n m c d) 5 #[true, true, true, true, true, true, true, true, true, true, false, false, true, false, false, false] ({ tmps := #[x0, x1, x2, x3, .pointer (some ⟨p, 0, none⟩), .pointer (some ⟨q, 0, none⟩), x6, x7, x8, .pointer (some ⟨f, 0, none⟩), undef, x11, x12, x13, x14, x15, x16, x17, x18, x19, x20, x21, x22, x23, x24, .agg #[.int .u8 (a.k : Int), .int .u8 (a.o : Int), .int .u8 (a.t : Int), .int .i32 a.n, .int .i64 a.v, .slice A n c], .agg #[.int .u8 4, .int .u8 26, .int .u8 0, .int .i32 0, .int .i64 0, .slice A1 1 c1], .agg #[.int .u8 (b.k : Int), .int .u8 (b.o : Int), .int .u8 (b.t : Int), .int .i32 b.n, .int .i64 b.v, .slice B m d], .agg #[.int .u8 4, .int .u8 26, .int .u8 0, .int .i32 0, .int .i64 0, .slice A2 1 c2], .agg #[.int .u8 5, .int .u8 21, .int .u8 0, .int .i32 0, .int .i64 0, .slice A3 2 c3], .agg #[.int .u8 4, .int .u8 26, .int .u8 0, .int .i32 0, .int .i64 0, .slice A4 1 c4], .agg #[.int .u8 (a.k : Int), .int .u8 (a.o : Int), .int .u8 (a.t : Int), .int .i32 a.n, .int .i64 a.v, .slice A n c], .agg #[.int .u8 4, .int .u8 26, .int .u8 0, .int .i32 0, .int .i64 0, .slice A5 1 c5], .agg #[.int .u8 (b.k : Int), .int .u8 (b.o : Int), .int .u8 (b.t : Int), .int .i32 b.n, .int .i64 b.v, .slice B m d], .agg #[.int .u8 4, .int .u8 26, .int .u8 0, .int .i32 0, .int .i64 0, .slice A6 1 c6], undef, undef, x37, x38, x39, x40, x41, x42, x43, x44, x45, x46, x47, x48, x49, x50, x51, x52, x53, x54, x55, x56, x57, x58, x59, x60, x61, x62, x63, x64, x65, x66, x67, x68, x69, x70, x71, x72, x73, x74, x75, x76, x77, x78, x79, x80, x81, x82, x83, x84, x85, x86, x87, x88, x89, x90, x91, x92, x93, x94, x95, x96, x97, x98, x99, x100, x101, x102, x103, x104, x105, x106, x107, x108, x109, x110, x111, x112, x113, x114, x115, x116, x117, x118, x119, x120, x121, x122, x123, x124], defers := [] } : Act) X := by
    intro f A1 c1 A2 c2 A3 c3 A4 c4 A5 c5 A6 c6 X F r4 r5 r6 hHeld
    refine wpAnyH_ready (rs := [10, 13]) (by kernel_rfl) (by simp) ?_
    refine AllReadyH.cons (o := { dst := some 35, op := Op.call { callee := Callee.value (Operand.func 32), args := #[Operand.const (Value.int IntKind.u8 20), Operand.tmp 32, Operand.tmp 34], argTypes := #[43, 45, 45] }, type := 45, pos := "outright.go:151", after := #[{ on := 7, ground := Ground.data }, { on := 9, ground := Ground.data }, { on := 9, ground := Ground.chain }], guard := none }) rfl (fun K hK => ?_) ?_
    · go_simp
      go_at_call 32
      (with_reducible refine (D7.out _ _ _ _ _ _ _ F.out r5.out r6.out).mono ?_)
      rintro e u ⟨A7, c7, rfl, t, bb⟩
      have F2 := Lib.hid (F.out.step bb)
      have hS2 := hHeld.keep bb
      refine hK.out _ _ hS2 (fun hHeld2 => ?_)
      try simp only [Act.put, List.setIfInBounds_toArray, List.set_cons_zero, List.set_cons_succ]
      exact s710 f A1 c1 A2 c2 A3 c3 A4 c4 A5 c5 A6 c6 A7 c7 u F2 (Lib.hid (r4.out.keep bb)) (Lib.hid t) hS2
    refine AllReadyH.cons (o := { dst := some 10, op := Op.alloc 45, type := 0, pos := "outright.go:151", after := #[], guard := none }) rfl (fun K hK => ?_) ?_
    · go_simp
      have F2 := Lib.hid F.out.al10
      have hS2 := hHeld.keep (bal (b0 X) (.cells kz6 45))
      refine hK.out _ _ hS2 (fun hHeld2 => ?_)
      try simp only [Act.put, List.setIfInBounds_toArray, List.set_cons_zero, List.set_cons_succ]
      exact s611 f X.heap.size A1 c1 A2 c2 A3 c3 A4 c4 A5 c5 A6 c6 _ F2 (Lib.hid (kr_10 r4.out _)) (Lib.hid (kr_10 r5.out _)) (Lib.hid (kr_10 r6.out _)) hS2
    exact AllReadyH.nil
  have s601 : ∀ (g : Nat) (A1 : Option Addr) (c1 : Nat) (A2 : Option Addr) (c2 : Nat) (A3 : Option Addr) (c3 : Nat) (A4 : Option Addr) (c4 : Nat) (A5 : Option Addr) (c5 : Nat) (A6 : Option Addr) (c6 : Nat) (X : World), Hid (FlX w X none (some g)) → Hid (KrN X (NN none (some g)) A4 c4 [k2 21 (k1 26 a) (k1 26 b)]) → Hid (KrN X (NN none (some g)) A5 c5 [a]) → Hid (KrN X (NN none (some g)) A6 c6 [b]) → SB p q a b A B n m c d X → wpAnyH Tryd.prog .any opsM2 Q (SB p q a b A B n m c d) 5 #[true, true, true, true, true, true, true, true, true, true, false, false, false, true, false, false] ({ tmps := #[x0, x1, x2, x3, .pointer (some ⟨p, 0, none⟩), .pointer (some ⟨q, 0, none⟩), x6, x7, x8, undef, .pointer (some ⟨g, 0, none⟩), x11, x12, x13, x14, x15, x16, x17, x18, x19, x20, x21, x22, x23, x24, .agg #[.int .u8 (a.k : Int), .int .u8 (a.o : Int), .int .u8 (a.t : Int), .int .i32 a.n, .int .i64 a.v, .slice A n c], .agg #[.int .u8 4, .int .u8 26, .int .u8 0, .int .i32 0, .int .i64 0, .slice A1 1 c1], .agg #[.int .u8 (b.k : Int), .int .u8 (b.o : Int), .int .u8 (b.t : Int), .int .i32 b.n, .int .i64 b.v, .slice B m d], .agg #[.int .u8 4, .int .u8 26, .int .u8 0, .int .i32 0, .int .i64 0, .slice A2 1 c2], .agg #[.int .u8 5, .int .u8 21, .int .u8 0, .int .i32 0, .int .i64 0, .slice A3 2 c3], .agg #[.int .u8 4, .int .u8 26, .int .u8 0, .int .i32 0, .int .i64 0, .slice A4 1 c4], .agg #[.int .u8 (a.k : Int), .int .u8 (a.o : Int), .int .u8 (a.t : Int), .int .i32 a.n, .int .i64 a.v, .slice A n c], .agg #[.int .u8 4, .int .u8 26, .int .u8 0, .int .i32 0, .int .i64 0, .slice A5 1 c5], .agg #[.int .u8 (b.k : Int), .int .u8 (b.o : Int), .int .u8 (b.t : Int), .int .i32 b.n, .int .i64 b.v, .slice B m d], .agg #[.int .u8 4, .int .u8 26, .int .u8 0, .int .i32 0, .int .i64 0, .slice A6 1 c6], undef, undef, x37, x38, x39, x40, x41, x42, x43, x44, x45, x46, x47, x48, x49, x50, x51, x52, x53, x54, x55, x56, x57, x58, x59, x60, x61, x62, x63, x64, x65, x66, x67, x68, x69, x70, x71, x72, x73, x74, x75, x76, x77, x78, x79, x80, x81, x82, x83, x84, x85, x86, x87, x88, x89, x90, x91, x92, x93, x94, x95, x96, x97, x98, x99, x100, x101, x102, x103, x104, x105, x106, x107, x108, x109, x110, x111, x112, x113, x114, x115, x116, x117, x118, x119, x120, x121, x122, x123, x124], defers := [] } : Act) X := by
    intro g A1 c1 A2 c2 A3 c3 A4 c4 A5 c5 A6 c6 X F r4 r5 r6 hHeld
    refine wpAnyH_ready (rs := [10, 12]) (by kernel_rfl) (by simp) ?_
    refine AllReadyH.cons (o := { dst := some 35, op := Op.call { callee := Callee.value (Operand.func 32), args := #[Operand.const (Value.int IntKind.u8 20), Operand.tmp 32, Operand.tmp 34], argTypes := #[43, 45, 45] }, type := 45, pos := "outright.go:151", after := #[{ on := 7, ground := Ground.data }, { on := 9, ground := Ground.data }, { on := 9, ground := Ground.chain }], guard := none }) rfl (fun K hK => ?_) ?_
    · go_simp
      go_at_call 32
      (with_reducible refine (D7.out _ _ _ _ _ _ _ F.out r5.out r6.out).mono ?_)
      rintro e u ⟨A7, c7, rfl, t, bb⟩
      have F2 := Lib.hid (F.out.step bb)
      have hS2 := hHeld.keep bb
      refine hK.out _ _ hS2 (fun hHeld2 => ?_)
      try simp only [Act.put, List.setIfInBounds_toArray, List.set_cons_zero, List.set_cons_succ]
      exact s701 g A1 c1 A2 c2 A3 c3 A4 c4 A5 c5 A6 c6 A7 c7 u F2 (Lib.hid (r4.out.keep bb)) (Lib.hid t) hS2
    refine AllReadyH.cons (o := { dst := some 9, op := Op.alloc 45, type := 0, pos := "outright.go:151", after := #[], guard := none }) rfl (fun K hK => ?_) ?_
    · go_simp
      have F2 := Lib.hid F.out.al9
      have hS2 := hHeld.keep (bal (b0 X) (.cells kz6 45))
      refine hK.out _ _ hS2 (fun hHeld2 => ?_)
      try simp only [Act.put, List.setIfInBounds_toArray, List.set_cons_zero, List.set_cons_succ]
      exact s611 X.heap.size g A1 c1 A2 c2 A3 c3 A4 c4 A5 c5 A6 c6 _ F2 (Lib.hid (kr_9 r4.out _)) (Lib.hid (kr_9 r5.out _)) (Lib.hid (kr_9 r6.out _)) hS2
    exact AllReadyH.nil
  have s600 : ∀  (A1 : Option Addr) (c1 : Nat) (A2 : Option Addr) (c2 : Nat) (A3 : Option Addr) (c3 : Nat) (A4 : Option Addr) (c4 : Nat) (A5 : Option Addr) (c5 : Nat) (A6 : Option Addr) (c6 : Nat) (X : World), Hid (FlX w X none none) → Hid (KrN X (NN none none) A4 c4 [k2 21 (k1 26 a) (k1 26 b)]) → Hid (KrN X (NN none none) A5 c5 [a]) → Hid (KrN X (NN none none) A6 c6 [b]) → SB p q a b A B n m c d X → wpAnyH Tryd.prog .any opsM2 Q (SB p q a b A B n m c d) 6 #[true, true, true, true, true, true, true, true, true, true, false, false, false, false, false, false] ({ tmps := #[x0, x1, x2, x3, .pointer (some ⟨p, 0, none⟩), .pointer (some ⟨q, 0, none⟩), x6, x7, x8, undef, undef, x11, x12, x13, x14, x15, x16, x17, x18, x19, x20, x21, x22, x23, x24, .agg #[.int .u8 (a.k : Int), .int .u8 (a.o : Int), .int .u8 (a.t : Int), .int .i32 a.n, .int .i64 a.v, .slice A n c], .agg #[.int .u8 4, .int .u8 26, .int .u8 0, .int .i32 0, .int .i64 0, .slice A1 1 c1], .agg #[.int .u8 (b.k : Int), .int .u8 (b.o : Int), .int .u8 (b.t : Int), .int .i32 b.n, .int .i64 b.v, .slice B m d], .agg #[.int .u8 4, .int .u8 26, .int .u8 0, .int .i32 0, .int .i64 0, .slice A2 1 c2], .agg #[.int .u8 5, .int .u8 21, .int .u8 0, .int .i32 0, .int .i64 0, .slice A3 2 c3], .agg #[.int .u8 4, .int .u8 26, .int .u8 0, .int .i32 0, .int .i64 0, .slice A4 1 c4], .agg #[.int .u8 (a.k : Int), .int .u8 (a.o : Int), .int .u8 (a.t : Int), .int .i32 a.n, .int .i64 a.v, .slice A n c], .agg #[.int .u8 4, .int .u8 26, .int .u8 0, .int .i32 0, .int .i64 0, .slice A5 1 c5], .agg #[.int .u8 (b.k : Int), .int .u8 (b.o : Int), .int .u8 (b.t : Int), .int .i32 b.n, .int .i64 b.v, .slice B m d], .agg #[.int .u8 4, .int .u8 26, .int .u8 0, .int .i32 0, .int .i64 0, .slice A6 1 c6], undef, undef, x37, x38, x39, x40, x41, x42, x43, x44, x45, x46, x47, x48, x49, x50, x51, x52, x53, x54, x55, x56, x57, x58, x59, x60, x61, x62, x63, x64, x65, x66, x67, x68, x69, x70, x71, x72, x73, x74, x75, x76, x77, x78, x79, x80, x81, x82, x83, x84, x85, x86, x87, x88, x89, x90, x91, x92, x93, x94, x95, x96, x97, x98, x99, x100, x101, x102, x103, x104, x105, x106, x107, x108, x109, x110, x111, x112, x113, x114, x115, x116, x117, x118, x119, x120, x121, x122, x123, x124], defers := [] } : Act) X := by
    intro  A1 c1 A2 c2 A3 c3 A4 c4 A5 c5 A6 c6 X F r4 r5 r6 hHeld
    refine wpAnyH_ready (rs := [10, 12, 13]) (by kernel_rfl) (by simp) ?_
    refine AllReadyH.cons (o := { dst := some 35, op := Op.call { callee := Callee.value (Operand.func 32), args := #[Operand.const (Value.int IntKind.u8 20), Operand.tmp 32, Operand.tmp 34], argTypes := #[43, 45, 45] }, type := 45, pos := "outright.go:151", after := #[{ on := 7, ground := Ground.data }, { on := 9, ground := Ground.data }, { on := 9, ground := Ground.chain }], guard := none }) rfl (fun K hK => ?_) ?_
    · go_simp
      go_at_call 32
      (with_reducible refine (D7.out _ _ _ _ _ _ _ F.out r5.out r6.out).mono ?_)
      rintro e u ⟨A7, c7, rfl, t, bb⟩
      have F2 := Lib.hid (F.out.step bb)
      have hS2 := hHeld.keep bb
      refine hK.out _ _ hS2 (fun hHeld2 => ?_)
      try simp only [Act.put, List.setIfInBounds_toArray, List.set_cons_zero, List.set_cons_succ]
      exact s700  A1 c1 A2 c2 A3 c3 A4 c4 A5 c5 A6 c6 A7 c7 u F2 (Lib.hid (r4.out.keep bb)) (Lib.hid t) hS2
    refine AllReadyH.cons (o := { dst := some 9, op := Op.alloc 45, type := 0, pos := "outright.go:151", after := #[], guard := none }) rfl (fun K hK => ?_) ?_
    · go_simp
      have F2 := Lib.hid F.out.al9
      have hS2 := hHeld.keep (bal (b0 X) (.cells kz6 45))
      refine hK.out _ _ hS2 (fun hHeld2 => ?_)
      try simp only [Act.put, List.setIfInBounds_toArray, List.set_cons_zero, List.set_cons_succ]
      exact s610 X.heap.size A1 c1 A2 c2 A3 c3 A4 c4 A5 c5 A6 c6 _ F2 (Lib.hid (kr_9 r4.out _)) (Lib.hid (kr_9 r5.out _)) (Lib.hid (kr_9 r6.out _)) hS2
    refine AllReadyH.cons (o := { dst := some 10, op := Op.alloc 45, type := 0, pos := "outright.go:151", after := #[], guard := none }) rfl (fun K hK => ?_) ?_
    · go_simp
      have F2 := Lib.hid F.out.al10
      have hS2 := hHeld.keep (bal (b0 X) (.cells kz6 45))
      refine hK.out _ _ hS2 (fun hHeld2 => ?_)
      try simp only [Act.put, List.setIfInBounds_toArray, List.set_cons_zero, List.set_cons_succ]
      exact s601 X.heap.size A1 c1 A2 c2 A3 c3 A4 c4 A5 c5 A6 c6 _ F2 (Lib.hid (kr_10 r4.out _)) (Lib.hid (kr_10 r5.out _)) (Lib.hid (kr_10 r6.out _)) hS2
    exact AllReadyH.nil
  have s511 : ∀ (f : Nat) (g : Nat) (A1 : Option Addr) (c1 : Nat) (A2 : Option Addr) (c2 : Nat) (A3 : Option Addr) (c3 : Nat) (A4 : Option Addr) (c4 : Nat) (A5 : Option Addr) (c5 : Nat) (X : World), Hid (FlX w X (some f) (some g)) → Hid (KrN X (NN (some f) (some g)) A4 c4 [k2 21 (k1 26 a) (k1 26 b)]) → Hid (KrN X (NN (some f) (some g)) A5 c5 [a]) → SB p q a b A B n m c d X → wpAnyH Tryd.prog .any opsM2 Q (SB p q a b A B n m c d) 5 #[true, true, true, true, true, true, true, true, true, false, false, false, true, true, false, false] ({ tmps := #[x0, x1, x2, x3, .pointer (some ⟨p, 0, none⟩), .pointer (some ⟨q, 0, none⟩), x6, x7, x8, .pointer (some ⟨f, 0, none⟩), .pointer (some ⟨g, 0, none⟩), x11, x12, x13, x14, x15, x16, x17, x18, x19, x20, x21, x22, x23, x24, .agg #[.int .u8 (a.k : Int), .int .u8 (a.o : Int), .int .u8 (a.t : Int), .int .i32 a.n, .int .i64 a.v, .slice A n c], .agg #[.int .u8 4, .int .u8 26, .int .u8 0, .int .i32 0, .int .i64 0, .slice A1 1 c1], .agg #[.int .u8 (b.k : Int), .int .u8 (b.o : Int), .int .u8 (b.t : Int), .int .i32 b.n, .int .i64 b.v, .slice B m d], .agg #[.int .u8 4, .int .u8 26, .int .u8 0, .int .i32 0, .int .i64 0, .slice A2 1 c2], .agg #[.int .u8 5, .int .u8 21, .int .u8 0, .int .i32 0, .int .i64 0, .slice A3 2 c3], .agg #[.int .u8 4, .int .u8 26, .int .u8 0, .int .i32 0, .int .i64 0, .slice A4 1 c4], .agg #[.int .u8 (a.k : Int), .int .u8 (a.o : Int), .int .u8 (a.t : Int), .int .i32 a.n, .int .i64 a.v, .slice A n c], .agg #[.int .u8 4, .int .u8 26, .int .u8 0, .int .i32 0, .int .i64 0, .slice A5 1 c5], .agg #[.int .u8 (b.k : Int), .int .u8 (b.o : Int), .int .u8 (b.t : Int), .int .i32 b.n, .int .i64 b.v, .slice B m d], undef, undef, undef, x37, x38, x39, x40, x41, x42, x43, x44, x45, x46, x47, x48, x49, x50, x51, x52, x53, x54, x55, x56, x57, x58, x59, x60, x61, x62, x63, x64, x65, x66, x67, x68, x69, x70, x71, x72, x73, x74, x75, x76, x77, x78, x79, x80, x81, x82, x83, x84, x85, x86, x87, x88, x89, x90, x91, x92, x93, x94, x95, x96, x97, x98, x99, x100, x101, x102, x103, x104, x105, x106, x107, x108, x109, x110, x111, x112, x113, x114, x115, x116, x117, x118, x119, x120, x121, x122, x123, x124], defers := [] } : Act) X := by
    intro f g A1 c1 A2 c2 A3 c3 A4 c4 A5 c5 X F r4 r5 hHeld
    refine wpAnyH_ready (rs := [9]) (by kernel_rfl) (by simp) ?_
    refine AllReadyH.cons (o := { dst := some 34, op := Op.call { callee := Callee.value (Operand.func 33), args := #[Operand.tmp 33], argTypes := #[45] }, type := 45, pos := "outright.go:151", after := #[{ on := 8, ground := Ground.data }, { on := 7, ground := Ground.chain }], guard := none }) rfl (fun K hK => ?_) ?_
    · go_simp
      go_at_call 33
      (with_reducible refine (D6.out _ _ _  F.out ).mono ?_)
      rintro e u ⟨A6, c6, rfl, t, bb⟩
      have F2 := Lib.hid (F.out.step bb)
      have hS2 := hHeld.keep bb
      refine hK.out _ _ hS2 (fun hHeld2 => ?_)
      try simp only [Act.put, List.setIfInBounds_toArray, List.set_cons_zero, List.set_cons_succ]
      exact s611 f g A1 c1 A2 c2 A3 c3 A4 c4 A5 c5 A6 c6 u F2 (Lib.hid (r4.out.keep bb)) (Lib.hid (r5.out.keep bb)) (Lib.hid t) hS2
    exact AllReadyH.nil
  have s510 : ∀ (f : Nat) (A1 : Option Addr) (c1 : Nat) (A2 : Option Addr) (c2 : Nat) (A3 : Option Addr) (c3 : Nat) (A4 : Option Addr) (c4 : Nat) (A5 : Option Addr) (c5 : Nat) (X : World), Hid (FlX w X (some f) none) → Hid (KrN X (NN (some f) none) A4 c4 [k2 21 (k1 26 a) (k1 26 b)]) → Hid (KrN X (NN (some f) none) A5 c5 [a]) → SB p q a b A B n m c d X → wpAnyH Tryd.prog .any opsM2 Q (SB p q a b A B n m c d) 6 #[true, true, true, true, true, true, true, true, true, false, false, false, true, false, false, false] ({ tmps := #[x0, x1, x2, x3, .pointer (some ⟨p, 0, none⟩), .pointer (some ⟨q, 0, none⟩), x6, x7, x8, .pointer (some ⟨f, 0, none⟩), undef, x11, x12, x13, x14, x15, x16, x17, x18, x19, x20, x21, x22, x23, x24, .agg #[.int .u8 (a.k : Int), .int .u8 (a.o : Int), .int .u8 (a.t : Int), .int .i32 a.n, .int .i64 a.v, .slice A n c], .agg #[.int .u8 4, .int .u8 26, .int .u8 0, .int .i32 0, .int .i64 0, .slice A1 1 c1], .agg #[.int .u8 (b.k : Int), .int .u8 (b.o : Int), .int .u8 (b.t : Int), .int .i32 b.n, .int .i64 b.v, .slice B m d], .agg #[.int .u8 4, .int .u8 26, .int .u8 0, .int .i32 0, .int .i64 0, .slice A2 1 c2], .agg #[.int .u8 5, .int .u8 21, .int .u8 0, .int .i32 0, .int .i64 0, .slice A3 2 c3], .agg #[.int .u8 4, .int .u8 26, .int .u8 0, .int .i32 0, .int .i64 0, .slice A4 1 c4], .agg #[.int .u8 (a.k : Int), .int .u8 (a.o : Int), .int .u8 (a.t : Int), .int .i32 a.n, .int .i64 a.v, .slice A n c], .agg #[.int .u8 4, .int .u8 26, .int .u8 0, .int .i32 0, .int .i64 0, .slice A5 1 c5], .agg #[.int .u8 (b.k : Int), .int .u8 (b.o : Int), .int .u8 (b.t : Int), .int .i32 b.n, .int .i64 b.v, .slice B m d], undef, undef, undef, x37, x38, x39, x40, x41, x42, x43, x44, x45, x46, x47, x48, x49, x50, x51, x52, x53, x54, x55, x56, x57, x58, x59, x60, x61, x62, x63, x64, x65, x66, x67, x68, x69, x70, x71, x72, x73, x74, x75, x76, x77, x78, x79, x80, x81, x82, x83, x84, x85, x86, x87, x88, x89, x90, x91, x92, x93, x94, x95, x96, x97, x98, x99, x100, x101, x102, x103, x104, x105, x106, x107, x108, x109, x110, x111, x112, x113, x114, x115, x116, x117, x118, x119, x120, x121, x122, x123, x124], defers := [] } : Act) X := by
    intro f A1 c1 A2 c2 A3 c3 A4 c4 A5 c5 X F r4 r5 hHeld
    refine wpAnyH_ready (rs := [9, 13]) (by kernel_rfl) (by simp) ?_
    refine AllReadyH.cons (o := { dst := some 34, op := Op.call { callee := Callee.value (Operand.func 33), args := #[Operand.tmp 33], argTypes := #[45] }, type := 45, pos := "outright.go:151", after := #[{ on := 8, ground := Ground.data }, { on := 7, ground := Ground.chain }], guard := none }) rfl (fun K hK => ?_) ?_
    · go_simp
      go_at_call 33
      (with_reducible refine (D6.out _ _ _  F.out ).mono ?_)
      rintro e u ⟨A6, c6, rfl, t, bb⟩
      have F2 := Lib.hid (F.out.step bb)
      have hS2 := hHeld.keep bb
      refine hK.out _ _ hS2 (fun hHeld2 => ?_)
      try simp only [Act.put, List.setIfInBounds_toArray, List.set_cons_zero, List.set_cons_succ]
      exact s610 f A1 c1 A2 c2 A3 c3 A4 c4 A5 c5 A6 c6 u F2 (Lib.hid (r4.out.keep bb)) (Lib.hid (r5.out.keep bb)) (Lib.hid t) hS2
    refine AllReadyH.cons (o := { dst := some 10, op := Op.alloc 45, type := 0, pos := "outright.go:151", after := #[], guard := none }) rfl (fun K hK => ?_) ?_
    · go_simp
      have F2 := Lib.hid F.out.al10
      have hS2 := hHeld.keep (bal (b0 X) (.cells kz6 45))
      refine hK.out _ _ hS2 (fun hHeld2 => ?_)
      try simp only [Act.put, List.setIfInBounds_toArray, List.set_cons_zero, List.set_cons_succ]
      exact s511 f X.heap.size A1 c1 A2 c2 A3 c3 A4 c4 A5 c5 _ F2 (Lib.hid (kr_10 r4.out _)) (Lib.hid (kr_10 r5.out _)) hS2
    exact AllReadyH.nil
  have s501 : ∀ (g : Nat) (A1 : Option Addr) (c1 : Nat) (A2 : Option Addr) (c2 : Nat) (A3 : Option Addr) (c3 : Nat) (A4 : Option Addr) (c4 : Nat) (A5 : Option Addr) (c5 : Nat) (X : World), Hid (FlX w X none (some g)) → Hid (KrN X (NN none (some g)) A4 c4 [k2 21 (k1 26 a) (k1 26 b)]) → Hid (KrN X (NN none (some g)) A5 c5 [a]) → SB p q a b A B n m c d X → wpAnyH Tryd.prog .any opsM2 Q (SB p q a b A B n m c d) 6 #[true, true, true, true, true, true, true, true, true, false, false, false, false, true, false, false] ({ tmps := #[x0, x1, x2, x3, .pointer (some ⟨p, 0, none⟩), .pointer (some ⟨q, 0, none⟩), x6, x7, x8, undef, .pointer (some ⟨g, 0, none⟩), x11, x12, x13, x14, x15, x16, x17, x18, x19, x20, x21, x22, x23, x24, .agg #[.int .u8 (a.k : Int), .int .u8 (a.o : Int), .int .u8 (a.t : Int), .int .i32 a.n, .int .i64 a.v, .slice A n c], .agg #[.int .u8 4, .int .u8 26, .int .u8 0, .int .i32 0, .int .i64 0, .slice A1 1 c1], .agg #[.int .u8 (b.k : Int), .int .u8 (b.o : Int), .int .u8 (b.t : Int), .int .i32 b.n, .int .i64 b.v, .slice B m d], .agg #[.int .u8 4, .int .u8 26, .int .u8 0, .int .i32 0, .int .i64 0, .slice A2 1 c2], .agg #[.int .u8 5, .int .u8 21, .int .u8 0, .int .i32 0, .int .i64 0, .slice A3 2 c3], .agg #[.int .u8 4, .int .u8 26, .int .u8 0, .int .i32 0, .int .i64 0, .slice A4 1 c4], .agg #[.int .u8 (a.k : Int), .int .u8 (a.o : Int), .int .u8 (a.t : Int), .int .i32 a.n, .int .i64 a.v, .slice A n c], .agg #[.int .u8 4, .int .u8 26, .int .u8 0, .int .i32 0, .int .i64 0, .slice A5 1 c5], .agg #[.int .u8 (b.k : Int), .int .u8 (b.o : Int), .int .u8 (b.t : Int), .int .i32 b.n, .int .i64 b.v, .slice B m d], undef, undef, undef, x37, x38, x39, x40, x41, x42, x43, x44, x45, x46, x47, x48, x49, x50, x51, x52, x53, x54, x55, x56, x57, x58, x59, x60, x61, x62, x63, x64, x65, x66, x67, x68, x69, x70, x71, x72, x73, x74, x75, x76, x77, x78, x79, x80, x81, x82, x83, x84, x85, x86, x87, x88, x89, x90, x91, x92, x93, x94, x95, x96, x97, x98, x99, x100, x101, x102, x103, x104, x105, x106, x107, x108, x109, x110, x111, x112, x113, x114, x115, x116, x117, x118, x119, x120, x121, x122, x123, x124], defers := [] } : Act) X := by
    intro g A1 c1 A2 c2 A3 c3 A4 c4 A5 c5 X F r4 r5 hHeld
    refine wpAnyH_ready (rs := [9, 12]) (by kernel_rfl) (by simp) ?_
    refine AllReadyH.cons (o := { dst := some 34, op := Op.call { callee := Callee.value (Operand.func 33), args := #[Operand.tmp 33], argTypes := #[45] }, type := 45, pos := "outright.go:151", after := #[{ on := 8, ground := Ground.data }, { on := 7, ground := Ground.chain }], guard := none }) rfl (fun K hK => ?_) ?_
    · go_simp
      go_at_call 33
      (with_reducible refine (D6.out _ _ _  F.out ).mono ?_)
      rintro e u ⟨A6, c6, rfl, t, bb⟩
      have F2 := Lib.hid (F.out.step bb)
      have hS2 := hHeld.keep bb
      refine hK.out _ _ hS2 (fun hHeld2 => ?_)
      try simp only [Act.put, List.setIfInBounds_toArray, List.set_cons_zero, List.set_cons_succ]
      exact s601 g A1 c1 A2 c2 A3 c3 A4 c4 A5 c5 A6 c6 u F2 (Lib.hid (r4.out.keep bb)) (Lib.hid (r5.out.keep bb)) (Lib.hid t) hS2
    refine AllReadyH.cons (o := { dst := some 9, op := Op.alloc 45, type := 0, pos := "outright.go:151", after := #[], guard := none }) rfl (fun K hK => ?_) ?_
    · go_simp
      have F2 := Lib.hid F.out.al9
      have hS2 := hHeld.keep (bal (b0 X) (.cells kz6 45))
      refine hK.out _ _ hS2 (fun hHeld2 => ?_)
      try simp only [Act.put, List.setIfInBounds_toArray, List.set_cons_zero, List.set_cons_succ]
      exact s511 X.heap.size g A1 c1 A2 c2 A3 c3 A4 c4 A5 c5 _ F2 (Lib.hid (kr_9 r4.out _)) (Lib.hid (kr_9 r5.out _)) hS2
    exact AllReadyH.nil
  have s500 : ∀  (A1 : Option Addr) (c1 : Nat) (A2 : Option Addr) (c2 : Nat) (A3 : Option Addr) (c3 : Nat) (A4 : Option Addr) (c4 : Nat) (A5 : Option Addr) (c5 : Nat) (X : World), Hid (FlX w X none none) → Hid (KrN X (NN none none) A4 c4 [k2 21 (k1 26 a) (k1 26 b)]) → Hid (KrN X (NN none none) A5 c5 [a]) → SB p q a b A B n m c d X → wpAnyH Tryd.prog .any opsM2 Q (SB p q a b A B n m c d) 7 #[true, true, true, true, true, true, true, true, true, false, false, false, false, false, false, false] ({ tmps := #[x0, x1, x2, x3, .pointer (some ⟨p, 0, none⟩), .pointer (some ⟨q, 0, none⟩), x6, x7, x8, undef, undef, x11, x12, x13, x14, x15, x16, x17, x18, x19, x20, x21, x22, x23, x24, .agg #[.int .u8 (a.k : Int), .int .u8 (a.o : Int), .int .u8 (a.t : Int), .int .i32 a.n, .int .i64 a.v, .slice A n c], .agg #[.int .u8 4, .int .u8 26, .int .u8 0, .int .i32 0, .int .i64 0, .slice A1 1 c1], .agg #[.int .u8 (b.k : Int), .int .u8 (b.o : Int), .int .u8 (b.t : Int), .int .i32 b.n, .int .i64 b.v, .slice B m d], .agg #[.int .u8 4, .int .u8 26, .int .u8 0, .int .i32 0, .int .i64 0, .slice A2 1 c2], .agg #[.int .u8 5, .int .u8 21, .int .u8 0, .int .i32 0, .int .i64 0, .slice A3 2 c3], .agg #[.int .u8 4, .int .u8 26, .int .u8 0, .int .i32 0, .int .i64 0, .slice A4 1 c4], .agg #[.int .u8 (a.k : Int), .int .u8 (a.o : Int), .int .u8 (a.t : Int), .int .i32 a.n, .int .i64 a.v, .slice A n c], .agg #[.int .u8 4, .int .u8 26, .int .u8 0, .int .i32 0, .int .i64 0, .slice A5 1 c5], .agg #[.int .u8 (b.k : Int), .int .u8 (b.o : Int), .int .u8 (b.t : Int), .int .i32 b.n, .int .i64 b.v, .slice B m d], undef, undef, undef, x37, x38, x39, x40, x41, x42, x43, x44, x45, x46, x47, x48, x49, x50, x51, x52, x53, x54, x55, x56, x57, x58, x59, x60, x61, x62, x63, x64, x65, x66, x67, x68, x69, x70, x71, x72, x73, x74, x75, x76, x77, x78, x79, x80, x81, x82, x83, x84, x85, x86, x87, x88, x89, x90, x91, x92, x93, x94, x95, x96, x97, x98, x99, x100, x101, x102, x103, x104, x105, x106, x107, x108, x109, x110, x111, x112, x113, x114, x115, x116, x117, x118, x119, x120, x121, x122, x123, x124], defers := [] } : Act) X := by
    intro  A1 c1 A2 c2 A3 c3 A4 c4 A5 c5 X F r4 r5 hHeld
    refine wpAnyH_ready (rs := [9, 12, 13]) (by kernel_rfl) (by simp) ?_
    refine AllReadyH.cons (o := { dst := some 34, op := Op.call { callee := Callee.value (Operand.func 33), args := #[Operand.tmp 33], argTypes := #[45] }, type := 45, pos := "outright.go:151", after := #[{ on := 8, ground := Ground.data }, { on := 7, ground := Ground.chain }], guard := none }) rfl (fun K hK => ?_) ?_
    · go_simp
      go_at_call 33
      (with_reducible refine (D6.out _ _ _  F.out ).mono ?_)
      rintro e u ⟨A6, c6, rfl, t, bb⟩
      have F2 := Lib.hid (F.out.step bb)
      have hS2 := hHeld.keep bb
      refine hK.out _ _ hS2 (fun hHeld2 => ?_)
      try simp only [Act.put, List.setIfInBounds_toArray, List.set_cons_zero, List.set_cons_succ]
      exact s600  A1 c1 A2 c2 A3 c3 A4 c4 A5 c5 A6 c6 u F2 (Lib.hid (r4.out.keep bb)) (Lib.hid (r5.out.keep bb)) (Lib.hid t) hS2
    refine AllReadyH.cons (o := { dst := some 9, op := Op.alloc 45, type := 0, pos := "outright.go:151", after := #[], guard := none }) rfl (fun K hK => ?_) ?_
    · go_simp
      have F2 := Lib.hid F.out.al9
      have hS2 := hHeld.keep (bal (b0 X) (.cells kz6 45))
      refine hK.out _ _ hS2 (fun hHeld2 => ?_)
      try simp only [Act.put, List.setIfInBounds_toArray, List.set_cons_zero, List.set_cons_succ]
      exact s510 X.heap.size A1 c1 A2 c2 A3 c3 A4 c4 A5 c5 _ F2 (Lib.hid (kr_9 r4.out _)) (Lib.hid (kr_9 r5.out _)) hS2
    refine AllReadyH.cons (o := { dst := some 10, op := Op.alloc 45, type := 0, pos := "outright.go:151", after := #[], guard := none }) rfl (fun K hK => ?_) ?_
    · go_simp
      have F2 := Lib.hid F.out.al10
      have hS2 := hHeld.keep (bal (b0 X) (.cells kz6 45))
      refine hK.out _ _ hS2 (fun hHeld2 => ?_)
      try simp only [Act.put, List.setIfInBounds_toArray, List.set_cons_zero, List.set_cons_succ]
      exact s501 X.heap.size A1 c1 A2 c2 A3 c3 A4 c4 A5 c5 _ F2 (Lib.hid (kr_10 r4.out _)) (Lib.hid (kr_10 r5.out _)) hS2
    exact AllReadyH.nil
  have s411 : ∀ (f : Nat) (g : Nat) (A1 : Option Addr) (c1 : Nat) (A2 : Option Addr) (c2 : Nat) (A3 : Option Addr) (c3 : Nat) (A4 : Option Addr) (c4 : Nat) (X : World), Hid (FlX w X (some f) (some g)) → Hid (KrN X (NN (some f) (some g)) A4 c4 [k2 21 (k1 26 a) (k1 26 b)]) → SB p q a b A B n m c d X → wpAnyH Tryd.prog .any opsM2 Q (SB p q a b A B n m c d) 6 #[true, true, true, true, true, true, true, false, true, false, false, false, true, true, false, false] ({ tmps := #[x0, x1, x2, x3, .pointer (some ⟨p, 0, none⟩), .pointer (some ⟨q, 0, none⟩), x6, x7, x8, .pointer (some ⟨f, 0, none⟩), .pointer (some ⟨g, 0, none⟩), x11, x12, x13, x14, x15, x16, x17, x18, x19, x20, x21, x22, x23, x24, .agg #[.int .u8 (a.k : Int), .int .u8 (a.o : Int), .int .u8 (a.t : Int), .int .i32 a.n, .int .i64 a.v, .slice A n c], .agg #[.int .u8 4, .int .u8 26, .int .u8 0, .int .i32 0, .int .i64 0, .slice A1 1 c1], .agg #[.int .u8 (b.k : Int), .int .u8 (b.o : Int), .int .u8 (b.t : Int), .int .i32 b.n, .int .i64 b.v, .slice B m d], .agg #[.int .u8 4, .int .u8 26, .int .u8 0, .int .i32 0, .int .i64 0, .slice A2 1 c2], .agg #[.int .u8 5, .int .u8 21, .int .u8 0, .int .i32 0, .int .i64 0, .slice A3 2 c3], .agg #[.int .u8 4, .int .u8 26, .int .u8 0, .int .i32 0, .int .i64 0, .slice A4 1 c4], .agg #[.int .u8 (a.k : Int), .int .u8 (a.o : Int), .int .u8 (a.t : Int), .int .i32 a.n, .int .i64 a.v, .slice A n c], undef, .agg #[.int .u8 (b.k : Int), .int .u8 (b.o : Int), .int .u8 (b.t : Int), .int .i32 b.n, .int .i64 b.v, .slice B m d], undef, undef, undef, x37, x38, x39, x40, x41, x42, x43, x44, x45, x46, x47, x48, x49, x50, x51, x52, x53, x54, x55, x56, x57, x58, x59, x60, x61, x62, x63, x64, x65, x66, x67, x68, x69, x70, x71, x72, x73, x74, x75, x76, x77, x78, x79, x80, x81, x82, x83, x84, x85, x86, x87, x88, x89, x90, x91, x92, x93, x94, x95, x96, x97, x98, x99, x100, x101, x102, x103, x104, x105, x106, x107, x108, x109, x110, x111, x112, x113, x114, x115, x116, x117, x118, x119, x120, x121, x122, x123, x124], defers := [] } : Act) X := by
    intro f g A1 c1 A2 c2 A3 c3 A4 c4 X F r4 hHeld
    refine wpAnyH_ready (rs := [7]) (by kernel_rfl) (by simp) ?_
    refine AllReadyH.cons (o := { dst := some 32, op := Op.call { callee := Callee.value (Operand.func 33), args := #[Operand.tmp 31], argTypes := #[45] }, type := 45, pos := "outright.go:151", after := #[{ on := 6, ground := Ground.data }, { on := 5, ground := Ground.chain }], guard := none }) rfl (fun K hK => ?_) ?_
    · go_simp
      go_at_call 33
      (with_reducible refine (D5.out _ _ _  F.out ).mono ?_)
      rintro e u ⟨A5, c5, rfl, t, bb⟩
      have F2 := Lib.hid (F.out.step bb)
      have hS2 := hHeld.keep bb
      refine hK.out _ _ hS2 (fun hHeld2 => ?_)
      try simp only [Act.put, List.setIfInBounds_toArray, List.set_cons_zero, List.set_cons_succ]
      exact s511 f g A1 c1 A2 c2 A3 c3 A4 c4 A5 c5 u F2 (Lib.hid (r4.out.keep bb)) (Lib.hid t) hS2
    exact AllReadyH.nil
  have s410 : ∀ (f : Nat) (A1 : Option Addr) (c1 : Nat) (A2 : Option Addr) (c2 : Nat) (A3 : Option Addr) (c3 : Nat) (A4 : Option Addr) (c4 : Nat) (X : World), Hid (FlX w X (some f) none) → Hid (KrN X (NN (some f) none) A4 c4 [k2 21 (k1 26 a) (k1 26 b)]) → SB p q a b A B n m c d X → wpAnyH Tryd.prog .any opsM2 Q (SB p q a b A B n m c d) 7 #[true, true, true, true, true, true, true, false, true, false, false, false, true, false, false, false] ({ tmps := #[x0, x1, x2, x3, .pointer (some ⟨p, 0, none⟩), .pointer (some ⟨q, 0, none⟩), x6, x7, x8, .pointer (some ⟨f, 0, none⟩), undef, x11, x12, x13, x14, x15, x16, x17, x18, x19, x20, x21, x22, x23, x24, .agg #[.int .u8 (a.k : Int), .int .u8 (a.o : Int), .int .u8 (a.t : Int), .int .i32 a.n, .int .i64 a.v, .slice A n c], .agg #[.int .u8 4, .int .u8 26, .int .u8 0, .int .i32 0, .int .i64 0, .slice A1 1 c1], .agg #[.int .u8 (b.k : Int), .int .u8 (b.o : Int), .int .u8 (b.t : Int), .int .i32 b.n, .int .i64 b.v, .slice B m d], .agg #[.int .u8 4, .int .u8 26, .int .u8 0, .int .i32 0, .int .i64 0, .slice A2 1 c2], .agg #[.int .u8 5, .int .u8 21, .int .u8 0, .int .i32 0, .int .i64 0, .slice A3 2 c3], .agg #[.int .u8 4, .int .u8 26, .int .u8 0, .int .i32 0, .int .i64 0, .slice A4 1 c4], .agg #[.int .u8 (a.k : Int), .int .u8 (a.o : Int), .int .u8 (a.t : Int), .int .i32 a.n, .int .i64 a.v, .slice A n c], undef, .agg #[.int .u8 (b.k : Int), .int .u8 (b.o : Int), .int .u8 (b.t : Int), .int .i32 b.n, .int .i64 b.v, .slice B m d], undef, undef, undef, x37, x38, x39, x40, x41, x42, x43, x44, x45, x46, x47, x48, x49, x50, x51, x52, x53, x54, x55, x56, x57, x58, x59, x60, x61, x62, x63, x64, x65, x66, x67, x68, x69, x70, x71, x72, x73, x74, x75, x76, x77, x78, x79, x80, x81, x82, x83, x84, x85, x86, x87, x88, x89, x90, x91, x92, x93, x94, x95, x96, x97, x98, x99, x100, x101, x102, x103, x104, x105, x106, x107, x108, x109, x110, x111, x112, x113, x114, x115, x116, x117, x118, x119, x120, x121, x122, x123, x124], defers := [] } : Act) X := by
    intro f A1 c1 A2 c2 A3 c3 A4 c4 X F r4 hHeld
    refine wpAnyH_ready (rs := [7, 13]) (by kernel_rfl) (by simp) ?_
    refine AllReadyH.cons (o := { dst := some 32, op := Op.call { callee := Callee.value (Operand.func 33), args := #[Operand.tmp 31], argTypes := #[45] }, type := 45, pos := "outright.go:151", after := #[{ on := 6, ground := Ground.data }, { on := 5, ground := Ground.chain }], guard := none }) rfl (fun K hK => ?_) ?_
    · go_simp
      go_at_call 33
      (with_reducible refine (D5.out _ _ _  F.out ).mono ?_)
      rintro e u ⟨A5, c5, rfl, t, bb⟩
      have F2 := Lib.hid (F.out.step bb)
      have hS2 := hHeld.keep bb
      refine hK.out _ _ hS2 (fun hHeld2 => ?_)
      try simp only [Act.put, List.setIfInBounds_toArray, List.set_cons_zero, List.set_cons_succ]
      exact s510 f A1 c1 A2 c2 A3 c3 A4 c4 A5 c5 u F2 (Lib.hid (r4.out.keep bb)) (Lib.hid t) hS2
    refine AllReadyH.cons (o := { dst := some 10, op := Op.alloc 45, type := 0, pos := "outright.go:151", after := #[], guard := none }) rfl (fun K hK => ?_) ?_
    · go_simp
      have F2 := Lib.hid F.out.al10
      have hS2 := hHeld.keep (bal (b0 X) (.cells kz6 45))
      refine hK.out _ _ hS2 (fun hHeld2 => ?_)
      try simp only [Act.put, List.setIfInBounds_toArray, List.set_cons_zero, List.set_cons_succ]
      exact s411 f X.heap.size A1 c1 A2 c2 A3 c3 A4 c4 _ F2 (Lib.hid (kr_10 r4.out _)) hS2
    exact AllReadyH.nil
  have s401 : ∀ (g : Nat) (A1 : Option Addr) (c1 : Nat) (A2 : Option Addr) (c2 : Nat) (A3 : Option Addr) (c3 : Nat) (A4 : Option Addr) (c4 : Nat) (X : World), Hid (FlX w X none (some g)) → Hid (KrN X (NN none (some g)) A4 c4 [k2 21 (k1 26 a) (k1 26 b)]) → SB p q a b A B n m c d X → wpAnyH Tryd.prog .any opsM2 Q (SB p q a b A B n m c d) 7 #[true, true, true, true, true, true, true, false, true, false, false, false, false, true, false, false] ({ tmps := #[x0, x1, x2, x3, .pointer (some ⟨p, 0, none⟩), .pointer (some ⟨q, 0, none⟩), x6, x7, x8, undef, .pointer (some ⟨g, 0, none⟩), x11, x12, x13, x14, x15, x16, x17, x18, x19, x20, x21, x22, x23, x24, .agg #[.int .u8 (a.k : Int), .int .u8 (a.o : Int), .int .u8 (a.t : Int), .int .i32 a.n, .int .i64 a.v, .slice A n c], .agg #[.int .u8 4, .int .u8 26, .int .u8 0, .int .i32 0, .int .i64 0, .slice A1 1 c1], .agg #[.int .u8 (b.k : Int), .int .u8 (b.o : Int), .int .u8 (b.t : Int), .int .i32 b.n, .int .i64 b.v, .slice B m d], .agg #[.int .u8 4, .int .u8 26, .int .u8 0, .int .i32 0, .int .i64 0, .slice A2 1 c2], .agg #[.int .u8 5, .int .u8 21, .int .u8 0, .int .i32 0, .int .i64 0, .slice A3 2 c3], .agg #[.int .u8 4, .int .u8 26, .int .u8 0, .int .i32 0, .int .i64 0, .slice A4 1 c4], .agg #[.int .u8 (a.k : Int), .int .u8 (a.o : Int), .int .u8 (a.t : Int), .int .i32 a.n, .int .i64 a.v, .slice A n c], undef, .agg #[.int .u8 (b.k : Int), .int .u8 (b.o : Int), .int .u8 (b.t : Int), .int .i32 b.n, .int .i64 b.v, .slice B m d], undef, undef, undef, x37, x38, x39, x40, x41, x42, x43, x44, x45, x46, x47, x48, x49, x50, x51, x52, x53, x54, x55, x56, x57, x58, x59, x60, x61, x62, x63, x64, x65, x66, x67, x68, x69, x70, x71, x72, x73, x74, x75, x76, x77, x78, x79, x80, x81, x82, x83, x84, x85, x86, x87, x88, x89, x90, x91, x92, x93, x94, x95, x96, x97, x98, x99, x100, x101, x102, x103, x104, x105, x106, x107, x108, x109, x110, x111, x112, x113, x114, x115, x116, x117, x118, x119, x120, x121, x122, x123, x124], defers := [] } : Act) X := by
    intro g A1 c1 A2 c2 A3 c3 A4 c4 X F r4 hHeld
    refine wpAnyH_ready (rs := [7, 12]) (by kernel_rfl) (by simp) ?_
    refine AllReadyH.cons (o := { dst := some 32, op := Op.call { callee := Callee.value (Operand.func 33), args := #[Operand.tmp 31], argTypes := #[45] }, type := 45, pos := "outright.go:151", after := #[{ on := 6, ground := Ground.data }, { on := 5, ground := Ground.chain }], guard := none }) rfl (fun K hK => ?_) ?_
    · go_simp
      go_at_call 33
      (with_reducible refine (D5.out _ _ _  F.out ).mono ?_)
      rintro e u ⟨A5, c5, rfl, t, bb⟩
      have F2 := Lib.hid (F.out.step bb)
      have hS2 := hHeld.keep bb
      refine hK.out _ _ hS2 (fun hHeld2 => ?_)
      try simp only [Act.put, List.setIfInBounds_toArray, List.set_cons_zero, List.set_cons_succ]
      exact s501 g A1 c1 A2 c2 A3 c3 A4 c4 A5 c5 u F2 (Lib.hid (r4.out.keep bb)) (Lib.hid t) hS2
    refine AllReadyH.cons (o := { dst := some 9, op := Op.alloc 45, type := 0, pos := "outright.go:151", after := #[], guard := none }) rfl (fun K hK => ?_) ?_
    · go_simp
      have F2 := Lib.hid F.out.al9
      have hS2 := hHeld.keep (bal (b0 X) (.cells kz6 45))
      refine hK.out _ _ hS2 (fun hHeld2 => ?_)
      try simp only [Act.put, List.setIfInBounds_toArray, List.set_cons_zero, List.set_cons_succ]
      exact s411 X.heap.size g A1 c1 A2 c2 A3 c3 A4 c4 _ F2 (Lib.hid (kr_9 r4.out _)) hS2
    exact AllReadyH.nil
  have s400 : ∀  (A1 : Option Addr) (c1 : Nat) (A2 : Option Addr) (c2 : Nat) (A3 : Option Addr) (c3 : Nat) (A4 : Option Addr) (c4 : Nat) (X : World), Hid (FlX w X none none) → Hid (KrN X (NN none none) A4 c4 [k2 21 (k1 26 a) (k1 26 b)]) → SB p q a b A B n m c d X → wpAnyH Tryd.prog .any opsM2 Q (SB p q a b A B n m c d) 8 #[true, true, true, true, true, true, true, false, true, false, false, false, false, false, false, false] ({ tmps := #[x0, x1, x2, x3, .pointer (some ⟨p, 0, none⟩), .pointer (some ⟨q, 0, none⟩), x6, x7, x8, undef, undef, x11, x12, x13, x14, x15, x16, x17, x18, x19, x20, x21, x22, x23, x24, .agg #[.int .u8 (a.k : Int), .int .u8 (a.o : Int), .int .u8 (a.t : Int), .int .i32 a.n, .int .i64 a.v, .slice A n c], .agg #[.int .u8 4, .int .u8 26, .int .u8 0, .int .i32 0, .int .i64 0, .slice A1 1 c1], .agg #[.int .u8 (b.k : Int), .int .u8 (b.o : Int), .int .u8 (b.t : Int), .int .i32 b.n, .int .i64 b.v, .slice B m d], .agg #[.int .u8 4, .int .u8 26, .int .u8 0, .int .i32 0, .int .i64 0, .slice A2 1 c2], .agg #[.int .u8 5, .int .u8 21, .int .u8 0, .int .i32 0, .int .i64 0, .slice A3 2 c3], .agg #[.int .u8 4, .int .u8 26, .int .u8 0, .int .i32 0, .int .i64 0, .slice A4 1 c4], .agg #[.int .u8 (a.k : Int), .int .u8 (a.o : Int), .int .u8 (a.t : Int), .int .i32 a.n, .int .i64 a.v, .slice A n c], undef, .agg #[.int .u8 (b.k : Int), .int .u8 (b.o : Int), .int .u8 (b.t : Int), .int .i32 b.n, .int .i64 b.v, .slice B m d], undef, undef, undef, x37, x38, x39, x40, x41, x42, x43, x44, x45, x46, x47, x48, x49, x50, x51, x52, x53, x54, x55, x56, x57, x58, x59, x60, x61, x62, x63, x64, x65, x66, x67, x68, x69, x70, x71, x72, x73, x74, x75, x76, x77, x78, x79, x80, x81, x82, x83, x84, x85, x86, x87, x88, x89, x90, x91, x92, x93, x94, x95, x96, x97, x98, x99, x100, x101, x102, x103, x104, x105, x106, x107, x108, x109, x110, x111, x112, x113, x114, x115, x116, x117, x118, x119, x120, x121, x122, x123, x124], defers := [] } : Act) X := by
    intro  A1 c1 A2 c2 A3 c3 A4 c4 X F r4 hHeld
    refine wpAnyH_ready (rs := [7, 12, 13]) (by kernel_rfl) (by simp) ?_
    refine AllReadyH.cons (o := { dst := some 32, op := Op.call { callee := Callee.value (Operand.func 33), args := #[Operand.tmp 31], argTypes := #[45] }, type := 45, pos := "outright.go:151", after := #[{ on := 6, ground := Ground.data }, { on := 5, ground := Ground.chain }], guard := none }) rfl (fun K hK => ?_) ?_
    · go_simp
      go_at_call 33
      (with_reducible refine (D5.out _ _ _  F.out ).mono ?_)
      rintro e u ⟨A5, c5, rfl, t, bb⟩
      have F2 := Lib.hid (F.out.step bb)
      have hS2 := hHeld.keep bb
      refine hK.out _ _ hS2 (fun hHeld2 => ?_)
      try simp only [Act.put, List.setIfInBounds_toArray, List.set_cons_zero, List.set_cons_succ]
      exact s500  A1 c1 A2 c2 A3 c3 A4 c4 A5 c5 u F2 (Lib.hid (r4.out.keep bb)) (Lib.hid t) hS2
    refine AllReadyH.cons (o := { dst := some 9, op := Op.alloc 45, type := 0, pos := "outright.go:151", after := #[], guard := none }) rfl (fun K hK => ?_) ?_
    · go_simp
      have F2 := Lib.hid F.out.al9
      have hS2 := hHeld.keep (bal (b0 X) (.cells kz6 45))
      refine hK.out _ _ hS2 (fun hHeld2 => ?_)
      try simp only [Act.put, List.setIfInBounds_toArray, List.set_cons_zero, List.set_cons_succ]
      exact s410 X.heap.size A1 c1 A2 c2 A3 c3 A4 c4 _ F2 (Lib.hid (kr_9 r4.out _)) hS2
    refine AllReadyH.cons (o := { dst := some 10, op := Op.alloc 45, type := 0, pos := "outright.go:151", after := #[], guard := none }) rfl (fun K hK => ?_) ?_
    · go_simp
      have F2 := Lib.hid F.out.al10
      have hS2 := hHeld.keep (bal (b0 X) (.cells kz6 45))
      refine hK.out _ _ hS2 (fun hHeld2 => ?_)
      try simp only [Act.put, List.setIfInBounds_toArray, List.set_cons_zero, List.set_cons_succ]
      exact s401 X.heap.size A1 c1 A2 c2 A3 c3 A4 c4 _ F2 (Lib.hid (kr_10 r4.out _)) hS2
    exact AllReadyH.nil
  have s311 : ∀ (f : Nat) (g : Nat) (A1 : Option Addr) (c1 : Nat) (A2 : Option Addr) (c2 : Nat) (A3 : Option Addr) (c3 : Nat) (X : World), Hid (FlX w X (some f) (some g)) → Hid (KrN X (NN (some f) (some g)) A3 c3 [k1 26 a, k1 26 b]) → SB p q a b A B n m c d X → wpAnyH Tryd.prog .any opsM2 Q (SB p q a b A B n m c d) 7 #[true, true, true, true, true, false, true, false, true, false, false, false, true, true, false, false] ({ tmps := #[x0, x1, x2, x3, .pointer (some ⟨p, 0, none⟩), .pointer (some ⟨q, 0, none⟩), x6, x7, x8, .pointer (some ⟨f, 0, none⟩), .pointer (some ⟨g, 0, none⟩), x11, x12, x13, x14, x15, x16, x17, x18, x19, x20, x21, x22, x23, x24, .agg #[.int .u8 (a.k : Int), .int .u8 (a.o : Int), .int .u8 (a.t : Int), .int .i32 a.n, .int .i64 a.v, .slice A n c], .agg #[.int .u8 4, .int .u8 26, .int .u8 0, .int .i32 0, .int .i64 0, .slice A1 1 c1], .agg #[.int .u8 (b.k : Int), .int .u8 (b.o : Int), .int .u8 (b.t : Int), .int .i32 b.n, .int .i64 b.v, .slice B m d], .agg #[.int .u8 4, .int .u8 26, .int .u8 0, .int .i32 0, .int .i64 0, .slice A2 1 c2], .agg #[.int .u8 5, .int .u8 21, .int .u8 0, .int .i32 0, .int .i64 0, .slice A3 2 c3], undef, .agg #[.int .u8 (a.k : Int), .int .u8 (a.o : Int), .int .u8 (a.t : Int), .int .i32 a.n, .int .i64 a.v, .slice A n c], undef, .agg #[.int .u8 (b.k : Int), .int .u8 (b.o : Int), .int .u8 (b.t : Int), .int .i32 b.n, .int .i64 b.v, .slice B m d], undef, undef, undef, x37, x38, x39, x40, x41, x42, x43, x44, x45, x46, x47, x48, x49, x50, x51, x52, x53, x54, x55, x56, x57, x58, x59, x60, x61, x62, x63, x64, x65, x66, x67, x68, x69, x70, x71, x72, x73, x74, x75, x76, x77, x78, x79, x80, x81, x82, x83, x84, x85, x86, x87, x88, x89, x90, x91, x92, x93, x94, x95, x96, x97, x98, x99, x100, x101, x102, x103, x104, x105, x106, x107, x108, x109, x110, x111, x112, x113, x114, x115, x116, x117, x118, x119, x120, x121, x122, x123, x124], defers := [] } : Act) X := by
    intro f g A1 c1 A2 c2 A3 c3 X F r3 hHeld
    refine wpAnyH_ready (rs := [5]) (by kernel_rfl) (by simp) ?_
    refine AllReadyH.cons (o := { dst := some 30, op := Op.call { callee := Callee.value (Operand.func 33), args := #[Operand.tmp 29], argTypes := #[45] }, type := 45, pos := "outright.go:151", after := #[{ on := 4, ground := Ground.data }, { on := 4, ground := Ground.chain }], guard := none }) rfl (fun K hK => ?_) ?_
    · go_simp
      go_at_call 33
      (with_reducible refine (D4.out _ _ _ _ _ F.out r3.out).mono ?_)
      rintro e u ⟨A4, c4, rfl, t, bb⟩
      have F2 := Lib.hid (F.out.step bb)
      have hS2 := hHeld.keep bb
      refine hK.out _ _ hS2 (fun hHeld2 => ?_)
      try simp only [Act.put, List.setIfInBounds_toArray, List.set_cons_zero, List.set_cons_succ]
      exact s411 f g A1 c1 A2 c2 A3 c3 A4 c4 u F2 (Lib.hid t) hS2
    exact AllReadyH.nil
  have s310 : ∀ (f : Nat) (A1 : Option Addr) (c1 : Nat) (A2 : Option Addr) (c2 : Nat) (A3 : Option Addr) (c3 : Nat) (X : World), Hid (FlX w X (some f) none) → Hid (KrN X (NN (some f) none) A3 c3 [k1 26 a, k1 26 b]) → SB p q a b A B n m c d X → wpAnyH Tryd.prog .any opsM2 Q (SB p q a b A B n m c d) 8 #[true, true, true, true, true, false, true, false, true, false, false, false, true, false, false, false] ({ tmps := #[x0, x1, x2, x3, .pointer (some ⟨p, 0, none⟩), .pointer (some ⟨q, 0, none⟩), x6, x7, x8, .pointer (some ⟨f, 0, none⟩), undef, x11, x12, x13, x14, x15, x16, x17, x18, x19, x20, x21, x22, x23, x24, .agg #[.int .u8 (a.k : Int), .int .u8 (a.o : Int), .int .u8 (a.t : Int), .int .i32 a.n, .int .i64 a.v, .slice A n c], .agg #[.int .u8 4, .int .u8 26, .int .u8 0, .int .i32 0, .int .i64 0, .slice A1 1 c1], .agg #[.int .u8 (b.k : Int), .int .u8 (b.o : Int), .int .u8 (b.t : Int), .int .i32 b.n, .int .i64 b.v, .slice B m d], .agg #[.int .u8 4, .int .u8 26, .int .u8 0, .int .i32 0, .int .i64 0, .slice A2 1 c2], .agg #[.int .u8 5, .int .u8 21, .int .u8 0, .int .i32 0, .int .i64 0, .slice A3 2 c3], undef, .agg #[.int .u8 (a.k : Int), .int .u8 (a.o : Int), .int .u8 (a.t : Int), .int .i32 a.n, .int .i64 a.v, .slice A n c], undef, .agg #[.int .u8 (b.k : Int), .int .u8 (b.o : Int), .int .u8 (b.t : Int), .int .i32 b.n, .int .i64 b.v, .slice B m d], undef, undef, undef, x37, x38, x39, x40, x41, x42, x43, x44, x45, x46, x47, x48, x49, x50, x51, x52, x53, x54, x55, x56, x57, x58, x59, x60, x61, x62, x63, x64, x65, x66, x67, x68, x69, x70, x71, x72, x73, x74, x75, x76, x77, x78, x79, x80, x81, x82, x83, x84, x85, x86, x87, x88, x89, x90, x91, x92, x93, x94, x95, x96, x97, x98, x99, x100, x101, x102, x103, x104, x105, x106, x107, x108, x109, x110, x111, x112, x113, x114, x115, x116, x117, x118, x119, x120, x121, x122, x123, x124], defers := [] } : Act) X := by
    intro f A1 c1 A2 c2 A3 c3 X F r3 hHeld
    refine wpAnyH_ready (rs := [5, 13]) (by kernel_rfl) (by simp) ?_
    refine AllReadyH.cons (o := { dst := some 30, op := Op.call { callee := Callee.value (Operand.func 33), args := #[Operand.tmp 29], argTypes := #[45] }, type := 45, pos := "outright.go:151", after := #[{ on := 4, ground := Ground.data }, { on := 4, ground := Ground.chain }], guard := none }) rfl (fun K hK => ?_) ?_
    · go_simp
      go_at_call 33
      (with_reducible refine (D4.out _ _ _ _ _ F.out r3.out).mono ?_)
      rintro e u ⟨A4, c4, rfl, t, bb⟩
      have F2 := Lib.hid (F.out.step bb)
      have hS2 := hHeld.keep bb
      refine hK.out _ _ hS2 (fun hHeld2 => ?_)
      try simp only [Act.put, List.setIfInBounds_toArray, List.set_cons_zero, List.set_cons_succ]
      exact s410 f A1 c1 A2 c2 A3 c3 A4 c4 u F2 (Lib.hid t) hS2
    refine AllReadyH.cons (o := { dst := some 10, op := Op.alloc 45, type := 0, pos := "outright.go:151", after := #[], guard := none }) rfl (fun K hK => ?_) ?_
    · go_simp
      have F2 := Lib.hid F.out.al10
      have hS2 := hHeld.keep (bal (b0 X) (.cells kz6 45))
      refine hK.out _ _ hS2 (fun hHeld2 => ?_)
      try simp only [Act.put, List.setIfInBounds_toArray, List.set_cons_zero, List.set_cons_succ]
      exact s311 f X.heap.size A1 c1 A2 c2 A3 c3 _ F2 (Lib.hid (kr_10 r3.out _)) hS2
    exact AllReadyH.nil
  have s301 : ∀ (g : Nat) (A1 : Option Addr) (c1 : Nat) (A2 : Option Addr) (c2 : Nat) (A3 : Option Addr) (c3 : Nat) (X : World), Hid (FlX w X none (some g)) → Hid (KrN X (NN none (some g)) A3 c3 [k1 26 a, k1 26 b]) → SB p q a b A B n m c d X → wpAnyH Tryd.prog .any opsM2 Q (SB p q a b A B n m c d) 8 #[true, true, true, true, true, false, true, false, true, false, false, false, false, true, false, false] ({ tmps := #[x0, x1, x2, x3, .pointer (some ⟨p, 0, none⟩), .pointer (some ⟨q, 0, none⟩), x6, x7, x8, undef, .pointer (some ⟨g, 0, none⟩), x11, x12, x13, x14, x15, x16, x17, x18, x19, x20, x21, x22, x23, x24, .agg #[.int .u8 (a.k : Int), .int .u8 (a.o : Int), .int .u8 (a.t : Int), .int .i32 a.n, .int .i64 a.v, .slice A n c], .agg #[.int .u8 4, .int .u8 26, .int .u8 0, .int .i32 0, .int .i64 0, .slice A1 1 c1], .agg #[.int .u8 (b.k : Int), .int .u8 (b.o : Int), .int .u8 (b.t : Int), .int .i32 b.n, .int .i64 b.v, .slice B m d], .agg #[.int .u8 4, .int .u8 26, .int .u8 0, .int .i32 0, .int .i64 0, .slice A2 1 c2], .agg #[.int .u8 5, .int .u8 21, .int .u8 0, .int .i32 0, .int .i64 0, .slice A3 2 c3], undef, .agg #[.int .u8 (a.k : Int), .int .u8 (a.o : Int), .int .u8 (a.t : Int), .int .i32 a.n, .int .i64 a.v, .slice A n c], undef, .agg #[.int .u8 (b.k : Int), .int .u8 (b.o : Int), .int .u8 (b.t : Int), .int .i32 b.n, .int .i64 b.v, .slice B m d], undef, undef, undef, x37, x38, x39, x40, x41, x42, x43, x44, x45, x46, x47, x48, x49, x50, x51, x52, x53, x54, x55, x56, x57, x58, x59, x60, x61, x62, x63, x64, x65, x66, x67, x68, x69, x70, x71, x72, x73, x74, x75, x76, x77, x78, x79, x80, x81, x82, x83, x84, x85, x86, x87, x88, x89, x90, x91, x92, x93, x94, x95, x96, x97, x98, x99, x100, x101, x102, x103, x104, x105, x106, x107, x108, x109, x110, x111, x112, x113, x114, x115, x116, x117, x118, x119, x120, x121, x122, x123, x124], defers := [] } : Act) X := by
    intro g A1 c1 A2 c2 A3 c3 X F r3 hHeld
    refine wpAnyH_ready (rs := [5, 12]) (by kernel_rfl) (by simp) ?_
    refine AllReadyH.cons (o := { dst := some 30, op := Op.call { callee := Callee.value (Operand.func 33), args := #[Operand.tmp 29], argTypes := #[45] }, type := 45, pos := "outright.go:151", after := #[{ on := 4, ground := Ground.data }, { on := 4, ground := Ground.chain }], guard := none }) rfl (fun K hK => ?_) ?_
    · go_simp
      go_at_call 33
      (with_reducible refine (D4.out _ _ _ _ _ F.out r3.out).mono ?_)
      rintro e u ⟨A4, c4, rfl, t, bb⟩
      have F2 := Lib.hid (F.out.step bb)
      have hS2 := hHeld.keep bb
      refine hK.out _ _ hS2 (fun hHeld2 => ?_)
      try simp only [Act.put, List.setIfInBounds_toArray, List.set_cons_zero, List.set_cons_succ]
      exact s401 g A1 c1 A2 c2 A3 c3 A4 c4 u F2 (Lib.hid t) hS2
    refine AllReadyH.cons (o := { dst := some 9, op := Op.alloc 45, type := 0, pos := "outright.go:151", after := #[], guard := none }) rfl (fun K hK => ?_) ?_
    · go_simp
      have F2 := Lib.hid F.out.al9
      have hS2 := hHeld.keep (bal (b0 X) (.cells kz6 45))
      refine hK.out _ _ hS2 (fun hHeld2 => ?_)
      try simp only [Act.put, List.setIfInBounds_toArray, List.set_cons_zero, List.set_cons_succ]
      exact s311 X.heap.size g A1 c1 A2 c2 A3 c3 _ F2 (Lib.hid (kr_9 r3.out _)) hS2
    exact AllReadyH.nil
  have s300 : ∀  (A1 : Option Addr) (c1 : Nat) (A2 : Option Addr) (c2 : Nat) (A3 : Option Addr) (c3 : Nat) (X : World), Hid (FlX w X none none) → Hid (KrN X (NN none none) A3 c3 [k1 26 a, k1 26 b]) → SB p q a b A B n m c d X → wpAnyH Tryd.prog .any opsM2 Q (SB p q a b A B n m c d) 9 #[true, true, true, true, true, false, true, false, true, false, false, false, false, false, false, false] ({ tmps := #[x0, x1, x2, x3, .pointer (some ⟨p, 0, none⟩), .pointer (some ⟨q, 0, none⟩), x6, x7, x8, undef, undef, x11, x12, x13, x14, x15, x16, x17, x18, x19, x20, x21, x22, x23, x24, .agg #[.int .u8 (a.k : Int), .int .u8 (a.o : Int), .int .u8 (a.t : Int), .int .i32 a.n, .int .i64 a.v, .slice A n c], .agg #[.int .u8 4, .int .u8 26, .int .u8 0, .int .i32 0, .int .i64 0, .slice A1 1 c1], .agg #[.int .u8 (b.k : Int), .int .u8 (b.o : Int), .int .u8 (b.t : Int), .int .i32 b.n, .int .i64 b.v, .slice B m d], .agg #[.int .u8 4, .int .u8 26, .int .u8 0, .int .i32 0, .int .i64 0, .slice A2 1 c2], .agg #[.int .u8 5, .int .u8 21, .int .u8 0, .int .i32 0, .int .i64 0, .slice A3 2 c3], undef, .agg #[.int .u8 (a.k : Int), .int .u8 (a.o : Int), .int .u8 (a.t : Int), .int .i32 a.n, .int .i64 a.v, .slice A n c], undef, .agg #[.int .u8 (b.k : Int), .int .u8 (b.o : Int), .int .u8 (b.t : Int), .int .i32 b.n, .int .i64 b.v, .slice B m d], undef, undef, undef, x37, x38, x39, x40, x41, x42, x43, x44, x45, x46, x47, x48, x49, x50, x51, x52, x53, x54, x55, x56, x57, x58, x59, x60, x61, x62, x63, x64, x65, x66, x67, x68, x69, x70, x71, x72, x73, x74, x75, x76, x77, x78, x79, x80, x81, x82, x83, x84, x85, x86, x87, x88, x89, x90, x91, x92, x93, x94, x95, x96, x97, x98, x99, x100, x101, x102, x103, x104, x105, x106, x107, x108, x109, x110, x111, x112, x113, x114, x115, x116, x117, x118, x119, x120, x121, x122, x123, x124], defers := [] } : Act) X := by
    intro  A1 c1 A2 c2 A3 c3 X F r3 hHeld
    refine wpAnyH_ready (rs := [5, 12, 13]) (by kernel_rfl) (by simp) ?_
    refine AllReadyH.cons (o := { dst := some 30, op := Op.call { callee := Callee.value (Operand.func 33), args := #[Operand.tmp 29], argTypes := #[45] }, type := 45, pos := "outright.go:151", after := #[{ on := 4, ground := Ground.data }, { on := 4, ground := Ground.chain }], guard := none }) rfl (fun K hK => ?_) ?_
    · go_simp
      go_at_call 33
      (with_reducible refine (D4.out _ _ _ _ _ F.out r3.out).mono ?_)
      rintro e u ⟨A4, c4, rfl, t, bb⟩
      have F2 := Lib.hid (F.out.step bb)
      have hS2 := hHeld.keep bb
      refine hK.out _ _ hS2 (fun hHeld2 => ?_)
      try simp only [Act.put, List.setIfInBounds_toArray, List.set_cons_zero, List.set_cons_succ]
      exact s400  A1 c1 A2 c2 A3 c3 A4 c4 u F2 (Lib.hid t) hS2
    refine AllReadyH.cons (o := { dst := some 9, op := Op.alloc 45, type := 0, pos := "outright.go:151", after := #[], guard := none }) rfl (fun K hK => ?_) ?_
    · go_simp
      have F2 := Lib.hid F.out.al9
      have hS2 := hHeld.keep (bal (b0 X) (.cells kz6 45))
      refine hK.out _ _ hS2 (fun hHeld2 => ?_)
      try simp only [Act.put, List.setIfInBounds_toArray, List.set_cons_zero, List.set_cons_succ]
      exact s310 X.heap.size A1 c1 A2 c2 A3 c3 _ F2 (Lib.hid (kr_9 r3.out _)) hS2
    refine AllReadyH.cons (o := { dst := some 10, op := Op.alloc 45, type := 0, pos := "outright.go:151", after := #[], guard := none }) rfl (fun K hK => ?_) ?_
    · go_simp
      have F2 := Lib.hid F.out.al10
      have hS2 := hHeld.keep (bal (b0 X) (.cells kz6 45))
      refine hK.out _ _ hS2 (fun hHeld2 => ?_)
      try simp only [Act.put, List.setIfInBounds_toArray, List.set_cons_zero, List.set_cons_succ]
      exact s301 X.heap.size A1 c1 A2 c2 A3 c3 _ F2 (Lib.hid (kr_10 r3.out _)) hS2
    exact AllReadyH.nil
  have s211 : ∀ (f : Nat) (g : Nat) (A1 : Option Addr) (c1 : Nat) (A2 : Option Addr) (c2 : Nat) (X : World), Hid (FlX w X (some f) (some g)) → Hid (KrN X (NN (some f) (some g)) A1 c1 [a]) → Hid (KrN X (NN (some f) (some g)) A2 c2 [b]) → SB p q a b A B n m c d X → wpAnyH Tryd.prog .any opsM2 Q (SB p q a b A B n m c d) 8 #[true, true, true, true, false, false, true, false, true, false, false, false, true, true, false, false] ({ tmps := #[x0, x1, x2, x3, .pointer (some ⟨p, 0, none⟩), .pointer (some ⟨q, 0, none⟩), x6, x7, x8, .pointer (some ⟨f, 0, none⟩), .pointer (some ⟨g, 0, none⟩), x11, x12, x13, x14, x15, x16, x17, x18, x19, x20, x21, x22, x23, x24, .agg #[.int .u8 (a.k : Int), .int .u8 (a.o : Int), .int .u8 (a.t : Int), .int .i32 a.n, .int .i64 a.v, .slice A n c], .agg #[.int .u8 4, .int .u8 26, .int .u8 0, .int .i32 0, .int .i64 0, .slice A1 1 c1], .agg #[.int .u8 (b.k : Int), .int .u8 (b.o : Int), .int .u8 (b.t : Int), .int .i32 b.n, .int .i64 b.v, .slice B m d], .agg #[.int .u8 4, .int .u8 26, .int .u8 0, .int .i32 0, .int .i64 0, .slice A2 1 c2], undef, undef, .agg #[.int .u8 (a.k : Int), .int .u8 (a.o : Int), .int .u8 (a.t : Int), .int .i32 a.n, .int .i64 a.v, .slice A n c], undef, .agg #[.int .u8 (b.k : Int), .int .u8 (b.o : Int), .int .u8 (b.t : Int), .int .i32 b.n, .int .i64 b.v, .slice B m d], undef, undef, undef, x37, x38, x39, x40, x41, x42, x43, x44, x45, x46, x47, x48, x49, x50, x51, x52, x53, x54, x55, x56, x57, x58, x59, x60, x61, x62, x63, x64, x65, x66, x67, x68, x69, x70, x71, x72, x73, x74, x75, x76, x77, x78, x79, x80, x81, x82, x83, x84, x85, x86, x87, x88, x89, x90, x91, x92, x93, x94, x95, x96, x97, x98, x99, x100, x101, x102, x103, x104, x105, x106, x107, x108, x109, x110, x111, x112, x113, x114, x115, x116, x117, x118, x119, x120, x121, x122, x123, x124], defers := [] } : Act) X := by
    intro f g A1 c1 A2 c2 X F r1 r2 hHeld
    refine wpAnyH_ready (rs := [4]) (by kernel_rfl) (by simp) ?_
    refine AllReadyH.cons (o := { dst := some 29, op := Op.call { callee := Callee.value (Operand.func 32), args := #[Operand.const (Value.int IntKind.u8 21), Operand.tmp 26, Operand.tmp 28], argTypes := #[43, 45, 45] }, type := 45, pos := "outright.go:151", after := #[{ on := 1, ground := Ground.data }, { on := 3, ground := Ground.data }, { on := 3, ground := Ground.chain }], guard := none }) rfl (fun K hK => ?_) ?_
    · go_simp
      go_at_call 32
      (with_reducible refine (D3.out _ _ _ _ _ _ _ F.out r1.out r2.out).mono ?_)
      rintro e u ⟨A3, c3, rfl, t, bb⟩
      have F2 := Lib.hid (F.out.step bb)
      have hS2 := hHeld.keep bb
      refine hK.out _ _ hS2 (fun hHeld2 => ?_)
      try simp only [Act.put, List.setIfInBounds_toArray, List.set_cons_zero, List.set_cons_succ]
      exact s311 f g A1 c1 A2 c2 A3 c3 u F2 (Lib.hid t) hS2
    exact AllReadyH.nil
  have s210 : ∀ (f : Nat) (A1 : Option Addr) (c1 : Nat) (A2 : Option Addr) (c2 : Nat) (X : World), Hid (FlX w X (some f) none) → Hid (KrN X (NN (some f) none) A1 c1 [a]) → Hid (KrN X (NN (some f) none) A2 c2 [b]) → SB p q a b A B n m c d X → wpAnyH Tryd.prog .any opsM2 Q (SB p q a b A B n m c d) 9 #[true, true, true, true, false, false, true, false, true, false, false, false, true, false, false, false] ({ tmps := #[x0, x1, x2, x3, .pointer (some ⟨p, 0, none⟩), .pointer (some ⟨q, 0, none⟩), x6, x7, x8, .pointer (some ⟨f, 0, none⟩), undef, x11, x12, x13, x14, x15, x16, x17, x18, x19, x20, x21, x22, x23, x24, .agg #[.int .u8 (a.k : Int), .int .u8 (a.o : Int), .int .u8 (a.t : Int), .int .i32 a.n, .int .i64 a.v, .slice A n c], .agg #[.int .u8 4, .int .u8 26, .int .u8 0, .int .i32 0, .int .i64 0, .slice A1 1 c1], .agg #[.int .u8 (b.k : Int), .int .u8 (b.o : Int), .int .u8 (b.t : Int), .int .i32 b.n, .int .i64 b.v, .slice B m d], .agg #[.int .u8 4, .int .u8 26, .int .u8 0, .int .i32 0, .int .i64 0, .slice A2 1 c2], undef, undef, .agg #[.int .u8 (a.k : Int), .int .u8 (a.o : Int), .int .u8 (a.t : Int), .int .i32 a.n, .int .i64 a.v, .slice A n c], undef, .agg #[.int .u8 (b.k : Int), .int .u8 (b.o : Int), .int .u8 (b.t : Int), .int .i32 b.n, .int .i64 b.v, .slice B m d], undef, undef, undef, x37, x38, x39, x40, x41, x42, x43, x44, x45, x46, x47, x48, x49, x50, x51, x52, x53, x54, x55, x56, x57, x58, x59, x60, x61, x62, x63, x64, x65, x66, x67, x68, x69, x70, x71, x72, x73, x74, x75, x76, x77, x78, x79, x80, x81, x82, x83, x84, x85, x86, x87, x88, x89, x90, x91, x92, x93, x94, x95, x96, x97, x98, x99, x100, x101, x102, x103, x104, x105, x106, x107, x108, x109, x110, x111, x112, x113, x114, x115, x116, x117, x118, x119, x120, x121, x122, x123, x124], defers := [] } : Act) X := by
    intro f A1 c1 A2 c2 X F r1 r2 hHeld
    refine wpAnyH_ready (rs := [4, 13]) (by kernel_rfl) (by simp) ?_
    refine AllReadyH.cons (o := { dst := some 29, op := Op.call { callee := Callee.value (Operand.func 32), args := #[Operand.const (Value.int IntKind.u8 21), Operand.tmp 26, Operand.tmp 28], argTypes := #[43, 45, 45] }, type := 45, pos := "outright.go:151", after := #[{ on := 1, ground := Ground.data }, { on := 3, ground := Ground.data }, { on := 3, ground := Ground.chain }], guard := none }) rfl (fun K hK => ?_) ?_
    · go_simp
      go_at_call 32
      (with_reducible refine (D3.out _ _ _ _ _ _ _ F.out r1.out r2.out).mono ?_)
      rintro e u ⟨A3, c3, rfl, t, bb⟩
      have F2 := Lib.hid (F.out.step bb)
      have hS2 := hHeld.keep bb
      refine hK.out _ _ hS2 (fun hHeld2 => ?_)
      try simp only [Act.put, List.setIfInBounds_toArray, List.set_cons_zero, List.set_cons_succ]
      exact s310 f A1 c1 A2 c2 A3 c3 u F2 (Lib.hid t) hS2
    refine AllReadyH.cons (o := { dst := some 10, op := Op.alloc 45, type := 0, pos := "outright.go:151", after := #[], guard := none }) rfl (fun K hK => ?_) ?_
    · go_simp
      have F2 := Lib.hid F.out.al10
      have hS2 := hHeld.keep (bal (b0 X) (.cells kz6 45))
      refine hK.out _ _ hS2 (fun hHeld2 => ?_)
      try simp only [Act.put, List.setIfInBounds_toArray, List.set_cons_zero, List.set_cons_succ]
      exact s211 f X.heap.size A1 c1 A2 c2 _ F2 (Lib.hid (kr_10 r1.out _)) (Lib.hid (kr_10 r2.out _)) hS2
    exact AllReadyH.nil
  have s201 : ∀ (g : Nat) (A1 : Option Addr) (c1 : Nat) (A2 : Option Addr) (c2 : Nat) (X : World), Hid (FlX w X none (some g)) → Hid (KrN X (NN none (some g)) A1 c1 [a]) → Hid (KrN X (NN none (some g)) A2 c2 [b]) → SB p q a b A B n m c d X → wpAnyH Tryd.prog .any opsM2 Q (SB p q a b A B n m c d) 9 #[true, true, true, true, false, false, true, false, true, false, false, false, false, true, false, false] ({ tmps := #[x0, x1, x2, x3, .pointer (some ⟨p, 0, none⟩), .pointer (some ⟨q, 0, none⟩), x6, x7, x8, undef, .pointer (some ⟨g, 0, none⟩), x11, x12, x13, x14, x15, x16, x17, x18, x19, x20, x21, x22, x23, x24, .agg #[.int .u8 (a.k : Int), .int .u8 (a.o : Int), .int .u8 (a.t : Int), .int .i32 a.n, .int .i64 a.v, .slice A n c], .agg #[.int .u8 4, .int .u8 26, .int .u8 0, .int .i32 0, .int .i64 0, .slice A1 1 c1], .agg #[.int .u8 (b.k : Int), .int .u8 (b.o : Int), .int .u8 (b.t : Int), .int .i32 b.n, .int .i64 b.v, .slice B m d], .agg #[.int .u8 4, .int .u8 26, .int .u8 0, .int .i32 0, .int .i64 0, .slice A2 1 c2], undef, undef, .agg #[.int .u8 (a.k : Int), .int .u8 (a.o : Int), .int .u8 (a.t : Int), .int .i32 a.n, .int .i64 a.v, .slice A n c], undef, .agg #[.int .u8 (b.k : Int), .int .u8 (b.o : Int), .int .u8 (b.t : Int), .int .i32 b.n, .int .i64 b.v, .slice B m d], undef, undef, undef, x37, x38, x39, x40, x41, x42, x43, x44, x45, x46, x47, x48, x49, x50, x51, x52, x53, x54, x55, x56, x57, x58, x59, x60, x61, x62, x63, x64, x65, x66, x67, x68, x69, x70, x71, x72, x73, x74, x75, x76, x77, x78, x79, x80, x81, x82, x83, x84, x85, x86, x87, x88, x89, x90, x91, x92, x93, x94, x95, x96, x97, x98, x99, x100, x101, x102, x103, x104, x105, x106, x107, x108, x109, x110, x111, x112, x113, x114, x115, x116, x117, x118, x119, x120, x121, x122, x123, x124], defers := [] } : Act) X := by
    intro g A1 c1 A2 c2 X F r1 r2 hHeld
    refine wpAnyH_ready (rs := [4, 12]) (by kernel_rfl) (by simp) ?_
    refine AllReadyH.cons (o := { dst := some 29, op := Op.call { callee := Callee.value (Operand.func 32), args := #[Operand.const (Value.int IntKind.u8 21), Operand.tmp 26, Operand.tmp 28], argTypes := #[43, 45, 45] }, type := 45, pos := "outright.go:151", after := #[{ on := 1, ground := Ground.data }, { on := 3, ground := Ground.data }, { on := 3, ground := Ground.chain }], guard := none }) rfl (fun K hK => ?_) ?_
    · go_simp
      go_at_call 32
      (with_reducible refine (D3.out _ _ _ _ _ _ _ F.out r1.out r2.out).mono ?_)
      rintro e u ⟨A3, c3, rfl, t, bb⟩
      have F2 := Lib.hid (F.out.step bb)
      have hS2 := hHeld.keep bb
      refine hK.out _ _ hS2 (fun hHeld2 => ?_)
      try simp only [Act.put, List.setIfInBounds_toArray, List.set_cons_zero, List.set_cons_succ]
      exact s301 g A1 c1 A2 c2 A3 c3 u F2 (Lib.hid t) hS2
    refine AllReadyH.cons (o := { dst := some 9, op := Op.alloc 45, type := 0, pos := "outright.go:151", after := #[], guard := none }) rfl (fun K hK => ?_) ?_
    · go_simp
      have F2 := Lib.hid F.out.al9
      have hS2 := hHeld.keep (bal (b0 X) (.cells kz6 45))
      refine hK.out _ _ hS2 (fun hHeld2 => ?_)
      try simp only [Act.put, List.setIfInBounds_toArray, List.set_cons_zero, List.set_cons_succ]
      exact s211 X.heap.size g A1 c1 A2 c2 _ F2 (Lib.hid (kr_9 r1.out _)) (Lib.hid (kr_9 r2.out _)) hS2
    exact AllReadyH.nil
  have s200 : ∀  (A1 : Option Addr) (c1 : Nat) (A2 : Option Addr) (c2 : Nat) (X : World), Hid (FlX w X none none) → Hid (KrN X (NN none none) A1 c1 [a]) → Hid (KrN X (NN none none) A2 c2 [b]) → SB p q a b A B n m c d X → wpAnyH Tryd.prog .any opsM2 Q (SB p q a b A B n m c d) 10 #[true, true, true, true, false, false, true, false, true, false, false, false, false, false, false, false] ({ tmps := #[x0, x1, x2, x3, .pointer (some ⟨p, 0, none⟩), .pointer (some ⟨q, 0, none⟩), x6, x7, x8, undef, undef, x11, x12, x13, x14, x15, x16, x17, x18, x19, x20, x21, x22, x23, x24, .agg #[.int .u8 (a.k : Int), .int .u8 (a.o : Int), .int .u8 (a.t : Int), .int .i32 a.n, .int .i64 a.v, .slice A n c], .agg #[.int .u8 4, .int .u8 26, .int .u8 0, .int .i32 0, .int .i64 0, .slice A1 1 c1], .agg #[.int .u8 (b.k : Int), .int .u8 (b.o : Int), .int .u8 (b.t : Int), .int .i32 b.n, .int .i64 b.v, .slice B m d], .agg #[.int .u8 4, .int .u8 26, .int .u8 0, .int .i32 0, .int .i64 0, .slice A2 1 c2], undef, undef, .agg #[.int .u8 (a.k : Int), .int .u8 (a.o : Int), .int .u8 (a.t : Int), .int .i32 a.n, .int .i64 a.v, .slice A n c], undef, .agg #[.int .u8 (b.k : Int), .int .u8 (b.o : Int), .int .u8 (b.t : Int), .int .i32 b.n, .int .i64 b.v, .slice B m d], undef, undef, undef, x37, x38, x39, x40, x41, x42, x43, x44, x45, x46, x47, x48, x49, x50, x51, x52, x53, x54, x55, x56, x57, x58, x59, x60, x61, x62, x63, x64, x65, x66, x67, x68, x69, x70, x71, x72, x73, x74, x75, x76, x77, x78, x79, x80, x81, x82, x83, x84, x85, x86, x87, x88, x89, x90, x91, x92, x93, x94, x95, x96, x97, x98, x99, x100, x101, x102, x103, x104, x105, x106, x107, x108, x109, x110, x111, x112, x113, x114, x115, x116, x117, x118, x119, x120, x121, x122, x123, x124], defers := [] } : Act) X := by
    intro  A1 c1 A2 c2 X F r1 r2 hHeld
    refine wpAnyH_ready (rs := [4, 12, 13]) (by kernel_rfl) (by simp) ?_
    refine AllReadyH.cons (o := { dst := some 29, op := Op.call { callee := Callee.value (Operand.func 32), args := #[Operand.const (Value.int IntKind.u8 21), Operand.tmp 26, Operand.tmp 28], argTypes := #[43, 45, 45] }, type := 45, pos := "outright.go:151", after := #[{ on := 1, ground := Ground.data }, { on := 3, ground := Ground.data }, { on := 3, ground := Ground.chain }], guard := none }) rfl (fun K hK => ?_) ?_
    · go_simp
      go_at_call 32
      (with_reducible refine (D3.out _ _ _ _ _ _ _ F.out r1.out r2.out).mono ?_)
      rintro e u ⟨A3, c3, rfl, t, bb⟩
      have F2 := Lib.hid (F.out.step bb)
      have hS2 := hHeld.keep bb
      refine hK.out _ _ hS2 (fun hHeld2 => ?_)
      try simp only [Act.put, List.setIfInBounds_toArray, List.set_cons_zero, List.set_cons_succ]
      exact s300  A1 c1 A2 c2 A3 c3 u F2 (Lib.hid t) hS2
    refine AllReadyH.cons (o := { dst := some 9, op := Op.alloc 45, type := 0, pos := "outright.go:151", after := #[], guard := none }) rfl (fun K hK => ?_) ?_
    · go_simp
      have F2 := Lib.hid F.out.al9
      have hS2 := hHeld.keep (bal (b0 X) (.cells kz6 45))
      refine hK.out _ _ hS2 (fun hHeld2 => ?_)
      try simp only [Act.put, List.setIfInBounds_toArray, List.set_cons_zero, List.set_cons_succ]
      exact s210 X.heap.size A1 c1 A2 c2 _ F2 (Lib.hid (kr_9 r1.out _)) (Lib.hid (kr_9 r2.out _)) hS2
    refine AllReadyH.cons (o := { dst := some 10, op := Op.alloc 45, type := 0, pos := "outright.go:151", after := #[], guard := none }) rfl (fun K hK => ?_) ?_
    · go_simp
      have F2 := Lib.hid F.out.al10
      have hS2 := hHeld.keep (bal (b0 X) (.cells kz6 45))
      refine hK.out _ _ hS2 (fun hHeld2 => ?_)
      try simp only [Act.put, List.setIfInBounds_toArray, List.set_cons_zero, List.set_cons_succ]
      exact s201 X.heap.size A1 c1 A2 c2 _ F2 (Lib.hid (kr_10 r1.out _)) (Lib.hid (kr_10 r2.out _)) hS2
    exact AllReadyH.nil
  have s111 : ∀ (f : Nat) (g : Nat) (A1 : Option Addr) (c1 : Nat) (X : World), Hid (FlX w X (some f) (some g)) → Hid (KrN X (NN (some f) (some g)) A1 c1 [a]) → SB p q a b A B n m c d X → wpAnyH Tryd.prog .any opsM2 Q (SB p q a b A B n m c d) 9 #[true, true, true, false, false, false, true, false, true, false, false, false, true, true, false, false] ({ tmps := #[x0, x1, x2, x3, .pointer (some ⟨p, 0, none⟩), .pointer (some ⟨q, 0, none⟩), x6, x7, x8, .pointer (some ⟨f, 0, none⟩), .pointer (some ⟨g, 0, none⟩), x11, x12, x13, x14, x15, x16, x17, x18, x19, x20, x21, x22, x23, x24, .agg #[.int .u8 (a.k : Int), .int .u8 (a.o : Int), .int .u8 (a.t : Int), .int .i32 a.n, .int .i64 a.v, .slice A n c], .agg #[.int .u8 4, .int .u8 26, .int .u8 0, .int .i32 0, .int .i64 0, .slice A1 1 c1], .agg #[.int .u8 (b.k : Int), .int .u8 (b.o : Int), .int .u8 (b.t : Int), .int .i32 b.n, .int .i64 b.v, .slice B m d], undef, undef, undef, .agg #[.int .u8 (a.k : Int), .int .u8 (a.o : Int), .int .u8 (a.t : Int), .int .i32 a.n, .int .i64 a.v, .slice A n c], undef, .agg #[.int .u8 (b.k : Int), .int .u8 (b.o : Int), .int .u8 (b.t : Int), .int .i32 b.n, .int .i64 b.v, .slice B m d], undef, undef, undef, x37, x38, x39, x40, x41, x42, x43, x44, x45, x46, x47, x48, x49, x50, x51, x52, x53, x54, x55, x56, x57, x58, x59, x60, x61, x62, x63, x64, x65, x66, x67, x68, x69, x70, x71, x72, x73, x74, x75, x76, x77, x78, x79, x80, x81, x82, x83, x84, x85, x86, x87, x88, x89, x90, x91, x92, x93, x94, x95, x96, x97, x98, x99, x100, x101, x102, x103, x104, x105, x106, x107, x108, x109, x110, x111, x112, x113, x114, x115, x116, x117, x118, x119, x120, x121, x122, x123, x124], defers := [] } : Act) X := by
    intro f g A1 c1 X F r1 hHeld
    refine wpAnyH_ready (rs := [3]) (by kernel_rfl) (by simp) ?_
    refine AllReadyH.cons (o := { dst := some 28, op := Op.call { callee := Callee.value (Operand.func 33), args := #[Operand.tmp 27], argTypes := #[45] }, type := 45, pos := "outright.go:151", after := #[{ on := 2, ground := Ground.data }, { on := 1, ground := Ground.chain }], guard := none }) rfl (fun K hK => ?_) ?_
    · go_simp
      go_at_call 33
      (with_reducible refine (D2.out _ _ _  F.out ).mono ?_)
      rintro e u ⟨A2, c2, rfl, t, bb⟩
      have F2 := Lib.hid (F.out.step bb)
      have hS2 := hHeld.keep bb
      refine hK.out _ _ hS2 (fun hHeld2 => ?_)
      try simp only [Act.put, List.setIfInBounds_toArray, List.set_cons_zero, List.set_cons_succ]
      exact s211 f g A1 c1 A2 c2 u F2 (Lib.hid (r1.out.keep bb)) (Lib.hid t) hS2
    exact AllReadyH.nil
  have s110 : ∀ (f : Nat) (A1 : Option Addr) (c1 : Nat) (X : World), Hid (FlX w X (some f) none) → Hid (KrN X (NN (some f) none) A1 c1 [a]) → SB p q a b A B n m c d X → wpAnyH Tryd.prog .any opsM2 Q (SB p q a b A B n m c d) 10 #[true, true, true, false, false, false, true, false, true, false, false, false, true, false, false, false] ({ tmps := #[x0, x1, x2, x3, .pointer (some ⟨p, 0, none⟩), .pointer (some ⟨q, 0, none⟩), x6, x7, x8, .pointer (some ⟨f, 0, none⟩), undef, x11, x12, x13, x14, x15, x16, x17, x18, x19, x20, x21, x22, x23, x24, .agg #[.int .u8 (a.k : Int), .int .u8 (a.o : Int), .int .u8 (a.t : Int), .int .i32 a.n, .int .i64 a.v, .slice A n c], .agg #[.int .u8 4, .int .u8 26, .int .u8 0, .int .i32 0, .int .i64 0, .slice A1 1 c1], .agg #[.int .u8 (b.k : Int), .int .u8 (b.o : Int), .int .u8 (b.t : Int), .int .i32 b.n, .int .i64 b.v, .slice B m d], undef, undef, undef, .agg #[.int .u8 (a.k : Int), .int .u8 (a.o : Int), .int .u8 (a.t : Int), .int .i32 a.n, .int .i64 a.v, .slice A n c], undef, .agg #[.int .u8 (b.k : Int), .int .u8 (b.o : Int), .int .u8 (b.t : Int), .int .i32 b.n, .int .i64 b.v, .slice B m d], undef, undef, undef, x37, x38, x39, x40, x41, x42, x43, x44, x45, x46, x47, x48, x49, x50, x51, x52, x53, x54, x55, x56, x57, x58, x59, x60, x61, x62, x63, x64, x65, x66, x67, x68, x69, x70, x71, x72, x73, x74, x75, x76, x77, x78, x79, x80, x81, x82, x83, x84, x85, x86, x87, x88, x89, x90, x91, x92, x93, x94, x95, x96, x97, x98, x99, x100, x101, x102, x103, x104, x105, x106, x107, x108, x109, x110, x111, x112, x113, x114, x115, x116, x117, x118, x119, x120, x121, x122, x123, x124], defers := [] } : Act) X := by
    intro f A1 c1 X F r1 hHeld
    refine wpAnyH_ready (rs := [3, 13]) (by kernel_rfl) (by simp) ?_
    refine AllReadyH.cons (o := { dst := some 28, op := Op.call { callee := Callee.value (Operand.func 33), args := #[Operand.tmp 27], argTypes := #[45] }, type := 45, pos := "outright.go:151", after := #[{ on := 2, ground := Ground.data }, { on := 1, ground := Ground.chain }], guard := none }) rfl (fun K hK => ?_) ?_
    · go_simp
      go_at_call 33
      (with_reducible refine (D2.out _ _ _  F.out ).mono ?_)
      rintro e u ⟨A2, c2, rfl, t, bb⟩
      have F2 := Lib.hid (F.out.step bb)
      have hS2 := hHeld.keep bb
      refine hK.out _ _ hS2 (fun hHeld2 => ?_)
      try simp only [Act.put, List.setIfInBounds_toArray, List.set_cons_zero, List.set_cons_succ]
      exact s210 f A1 c1 A2 c2 u F2 (Lib.hid (r1.out.keep bb)) (Lib.hid t) hS2
    refine AllReadyH.cons (o := { dst := some 10, op := Op.alloc 45, type := 0, pos := "outright.go:151", after := #[], guard := none }) rfl (fun K hK => ?_) ?_
    · go_simp
      have F2 := Lib.hid F.out.al10
      have hS2 := hHeld.keep (bal (b0 X) (.cells kz6 45))
      refine hK.out _ _ hS2 (fun hHeld2 => ?_)
      try simp only [Act.put, List.setIfInBounds_toArray, List.set_cons_zero, List.set_cons_succ]
      exact s111 f X.heap.size A1 c1 _ F2 (Lib.hid (kr_10 r1.out _)) hS2
    exact AllReadyH.nil
  have s101 : ∀ (g : Nat) (A1 : Option Addr) (c1 : Nat) (X : World), Hid (FlX w X none (some g)) → Hid (KrN X (NN none (some g)) A1 c1 [a]) → SB p q a b A B n m c d X → wpAnyH Tryd.prog .any opsM2 Q (SB p q a b A B n m c d) 10 #[true, true, true, false, false, false, true, false, true, false, false, false, false, true, false, false] ({ tmps := #[x0, x1, x2, x3, .pointer (some ⟨p, 0, none⟩), .pointer (some ⟨q, 0, none⟩), x6, x7, x8, undef, .pointer (some ⟨g, 0, none⟩), x11, x12, x13, x14, x15, x16, x17, x18, x19, x20, x21, x22, x23, x24, .agg #[.int .u8 (a.k : Int), .int .u8 (a.o : Int), .int .u8 (a.t : Int), .int .i32 a.n, .int .i64 a.v, .slice A n c], .agg #[.int .u8 4, .int .u8 26, .int .u8 0, .int .i32 0, .int .i64 0, .slice A1 1 c1], .agg #[.int .u8 (b.k : Int), .int .u8 (b.o : Int), .int .u8 (b.t : Int), .int .i32 b.n, .int .i64 b.v, .slice B m d], undef, undef, undef, .agg #[.int .u8 (a.k : Int), .int .u8 (a.o : Int), .int .u8 (a.t : Int), .int .i32 a.n, .int .i64 a.v, .slice A n c], undef, .agg #[.int .u8 (b.k : Int), .int .u8 (b.o : Int), .int .u8 (b.t : Int), .int .i32 b.n, .int .i64 b.v, .slice B m d], undef, undef, undef, x37, x38, x39, x40, x41, x42, x43, x44, x45, x46, x47, x48, x49, x50, x51, x52, x53, x54, x55, x56, x57, x58, x59, x60, x61, x62, x63, x64, x65, x66, x67, x68, x69, x70, x71, x72, x73, x74, x75, x76, x77, x78, x79, x80, x81, x82, x83, x84, x85, x86, x87, x88, x89, x90, x91, x92, x93, x94, x95, x96, x97, x98, x99, x100, x101, x102, x103, x104, x105, x106, x107, x108, x109, x110, x111, x112, x113, x114, x115, x116, x117, x118, x119, x120, x121, x122, x123, x124], defers := [] } : Act) X := by
    intro g A1 c1 X F r1 hHeld
    refine wpAnyH_ready (rs := [3, 12]) (by kernel_rfl) (by simp) ?_
    refine AllReadyH.cons (o := { dst := some 28, op := Op.call { callee := Callee.value (Operand.func 33), args := #[Operand.tmp 27], argTypes := #[45] }, type := 45, pos := "outright.go:151", after := #[{ on := 2, ground := Ground.data }, { on := 1, ground := Ground.chain }], guard := none }) rfl (fun K hK => ?_) ?_
    · go_simp
      go_at_call 33
      (with_reducible refine (D2.out _ _ _  F.out ).mono ?_)
      rintro e u ⟨A2, c2, rfl, t, bb⟩
      have F2 := Lib.hid (F.out.step bb)
      have hS2 := hHeld.keep bb
      refine hK.out _ _ hS2 (fun hHeld2 => ?_)
      try simp only [Act.put, List.setIfInBounds_toArray, List.set_cons_zero, List.set_cons_succ]
      exact s201 g A1 c1 A2 c2 u F2 (Lib.hid (r1.out.keep bb)) (Lib.hid t) hS2
    refine AllReadyH.cons (o := { dst := some 9, op := Op.alloc 45, type := 0, pos := "outright.go:151", after := #[], guard := none }) rfl (fun K hK => ?_) ?_
    · go_simp
      have F2 := Lib.hid F.out.al9
      have hS2 := hHeld.keep (bal (b0 X) (.cells kz6 45))
      refine hK.out _ _ hS2 (fun hHeld2 => ?_)
      try simp only [Act.put, List.setIfInBounds_toArray, List.set_cons_zero, List.set_cons_succ]
      exact s111 X.heap.size g A1 c1 _ F2 (Lib.hid (kr_9 r1.out _)) hS2
    exact AllReadyH.nil
  have s100 : ∀  (A1 : Option Addr) (c1 : Nat) (X : World), Hid (FlX w X none none) → Hid (KrN X (NN none none) A1 c1 [a]) → SB p q a b A B n m c d X → wpAnyH Tryd.prog .any opsM2 Q (SB p q a b A B n m c d) 11 #[true, true, true, false, false, false, true, false, true, false, false, false, false, false, false, false] ({ tmps := #[x0, x1, x2, x3, .pointer (some ⟨p, 0, none⟩), .pointer (some ⟨q, 0, none⟩), x6, x7, x8, undef, undef, x11, x12, x13, x14, x15, x16, x17, x18, x19, x20, x21, x22, x23, x24, .agg #[.int .u8 (a.k : Int), .int .u8 (a.o : Int), .int .u8 (a.t : Int), .int .i32 a.n, .int .i64 a.v, .slice A n c], .agg #[.int .u8 4, .int .u8 26, .int .u8 0, .int .i32 0, .int .i64 0, .slice A1 1 c1], .agg #[.int .u8 (b.k : Int), .int .u8 (b.o : Int), .int .u8 (b.t : Int), .int .i32 b.n, .int .i64 b.v, .slice B m d], undef, undef, undef, .agg #[.int .u8 (a.k : Int), .int .u8 (a.o : Int), .int .u8 (a.t : Int), .int .i32 a.n, .int .i64 a.v, .slice A n c], undef, .agg #[.int .u8 (b.k : Int), .int .u8 (b.o : Int), .int .u8 (b.t : Int), .int .i32 b.n, .int .i64 b.v, .slice B m d], undef, undef, undef, x37, x38, x39, x40, x41, x42, x43, x44, x45, x46, x47, x48, x49, x50, x51, x52, x53, x54, x55, x56, x57, x58, x59, x60, x61, x62, x63, x64, x65, x66, x67, x68, x69, x70, x71, x72, x73, x74, x75, x76, x77, x78, x79, x80, x81, x82, x83, x84, x85, x86, x87, x88, x89, x90, x91, x92, x93, x94, x95, x96, x97, x98, x99, x100, x101, x102, x103, x104, x105, x106, x107, x108, x109, x110, x111, x112, x113, x114, x115, x116, x117, x118, x119, x120, x121, x122, x123, x124], defers := [] } : Act) X := by
    intro  A1 c1 X F r1 hHeld
    refine wpAnyH_ready (rs := [3, 12, 13]) (by kernel_rfl) (by simp) ?_
    refine AllReadyH.cons (o := { dst := some 28, op := Op.call { callee := Callee.value (Operand.func 33), args := #[Operand.tmp 27], argTypes := #[45] }, type := 45, pos := "outright.go:151", after := #[{ on := 2, ground := Ground.data }, { on := 1, ground := Ground.chain }], guard := none }) rfl (fun K hK => ?_) ?_
    · go_simp
      go_at_call 33
      (with_reducible refine (D2.out _ _ _  F.out ).mono ?_)
      rintro e u ⟨A2, c2, rfl, t, bb⟩
      have F2 := Lib.hid (F.out.step bb)
      have hS2 := hHeld.keep bb
      refine hK.out _ _ hS2 (fun hHeld2 => ?_)
      try simp only [Act.put, List.setIfInBounds_toArray, List.set_cons_zero, List.set_cons_succ]
      exact s200  A1 c1 A2 c2 u F2 (Lib.hid (r1.out.keep bb)) (Lib.hid t) hS2
    refine AllReadyH.cons (o := { dst := some 9, op := Op.alloc 45, type := 0, pos := "outright.go:151", after := #[], guard := none }) rfl (fun K hK => ?_) ?_
    · go_simp
      have F2 := Lib.hid F.out.al9
      have hS2 := hHeld.keep (bal (b0 X) (.cells kz6 45))
      refine hK.out _ _ hS2 (fun hHeld2 => ?_)
      try simp only [Act.put, List.setIfInBounds_toArray, List.set_cons_zero, List.set_cons_succ]
      exact s110 X.heap.size A1 c1 _ F2 (Lib.hid (kr_9 r1.out _)) hS2
    refine AllReadyH.cons (o := { dst := some 10, op := Op.alloc 45, type := 0, pos := "outright.go:151", after := #[], guard := none }) rfl (fun K hK => ?_) ?_
    · go_simp
      have F2 := Lib.hid F.out.al10
      have hS2 := hHeld.keep (bal (b0 X) (.cells kz6 45))
      refine hK.out _ _ hS2 (fun hHeld2 => ?_)
      try simp only [Act.put, List.setIfInBounds_toArray, List.set_cons_zero, List.set_cons_succ]
      exact s101 X.heap.size A1 c1 _ F2 (Lib.hid (kr_10 r1.out _)) hS2
    exact AllReadyH.nil
  have s011 : ∀ (f : Nat) (g : Nat)  (X : World), Hid (FlX w X (some f) (some g)) → SB p q a b A B n m c d X → wpAnyH Tryd.prog .any opsM2 Q (SB p q a b A B n m c d) 10 #[true, false, true, false, false, false, true, false, true, false, false, false, true, true, false, false] ({ tmps := #[x0, x1, x2, x3, .pointer (some ⟨p, 0, none⟩), .pointer (some ⟨q, 0, none⟩), x6, x7, x8, .pointer (some ⟨f, 0, none⟩), .pointer (some ⟨g, 0, none⟩), x11, x12, x13, x14, x15, x16, x17, x18, x19, x20, x21, x22, x23, x24, .agg #[.int .u8 (a.k : Int), .int .u8 (a.o : Int), .int .u8 (a.t : Int), .int .i32 a.n, .int .i64 a.v, .slice A n c], undef, .agg #[.int .u8 (b.k : Int), .int .u8 (b.o : Int), .int .u8 (b.t : Int), .int .i32 b.n, .int .i64 b.v, .slice B m d], undef, undef, undef, .agg #[.int .u8 (a.k : Int), .int .u8 (a.o : Int), .int .u8 (a.t : Int), .int .i32 a.n, .int .i64 a.v, .slice A n c], undef, .agg #[.int .u8 (b.k : Int), .int .u8 (b.o : Int), .int .u8 (b.t : Int), .int .i32 b.n, .int .i64 b.v, .slice B m d], undef, undef, undef, x37, x38, x39, x40, x41, x42, x43, x44, x45, x46, x47, x48, x49, x50, x51, x52, x53, x54, x55, x56, x57, x58, x59, x60, x61, x62, x63, x64, x65, x66, x67, x68, x69, x70, x71, x72, x73, x74, x75, x76, x77, x78, x79, x80, x81, x82, x83, x84, x85, x86, x87, x88, x89, x90, x91, x92, x93, x94, x95, x96, x97, x98, x99, x100, x101, x102, x103, x104, x105, x106, x107, x108, x109, x110, x111, x112, x113, x114, x115, x116, x117, x118, x119, x120, x121, x122, x123, x124], defers := [] } : Act) X := by
    intro f g  X F  hHeld
    refine wpAnyH_ready (rs := [1]) (by kernel_rfl) (by simp) ?_
    refine AllReadyH.cons (o := { dst := some 26, op := Op.call { callee := Callee.value (Operand.func 33), args := #[Operand.tmp 25], argTypes := #[45] }, type := 45, pos := "outright.go:151", after := #[{ on := 0, ground := Ground.data }], guard := none }) rfl (fun K hK => ?_) ?_
    · go_simp
      go_at_call 33
      (with_reducible refine (D1.out _ _ _  F.out ).mono ?_)
      rintro e u ⟨A1, c1, rfl, t, bb⟩
      have F2 := Lib.hid (F.out.step bb)
      have hS2 := hHeld.keep bb
      refine hK.out _ _ hS2 (fun hHeld2 => ?_)
      try simp only [Act.put, List.setIfInBounds_toArray, List.set_cons_zero, List.set_cons_succ]
      exact s111 f g A1 c1 u F2 (Lib.hid t) hS2
    exact AllReadyH.nil
  have s010 : ∀ (f : Nat)  (X : World), Hid (FlX w X (some f) none) → SB p q a b A B n m c d X → wpAnyH Tryd.prog .any opsM2 Q (SB p q a b A B n m c d) 11 #[true, false, true, false, false, false, true, false, true, false, false, false, true, false, false, false] ({ tmps := #[x0, x1, x2, x3, .pointer (some ⟨p, 0, none⟩), .pointer (some ⟨q, 0, none⟩), x6, x7, x8, .pointer (some ⟨f, 0, none⟩), undef, x11, x12, x13, x14, x15, x16, x17, x18, x19, x20, x21, x22, x23, x24, .agg #[.int .u8 (a.k : Int), .int .u8 (a.o : Int), .int .u8 (a.t : Int), .int .i32 a.n, .int .i64 a.v, .slice A n c], undef, .agg #[.int .u8 (b.k : Int), .int .u8 (b.o : Int), .int .u8 (b.t : Int), .int .i32 b.n, .int .i64 b.v, .slice B m d], undef, undef, undef, .agg #[.int .u8 (a.k : Int), .int .u8 (a.o : Int), .int .u8 (a.t : Int), .int .i32 a.n, .int .i64 a.v, .slice A n c], undef, .agg #[.int .u8 (b.k : Int), .int .u8 (b.o : Int), .int .u8 (b.t : Int), .int .i32 b.n, .int .i64 b.v, .slice B m d], undef, undef, undef, x37, x38, x39, x40, x41, x42, x43, x44, x45, x46, x47, x48, x49, x50, x51, x52, x53, x54, x55, x56, x57, x58, x59, x60, x61, x62, x63, x64, x65, x66, x67, x68, x69, x70, x71, x72, x73, x74, x75, x76, x77, x78, x79, x80, x81, x82, x83, x84, x85, x86, x87, x88, x89, x90, x91, x92, x93, x94, x95, x96, x97, x98, x99, x100, x101, x102, x103, x104, x105, x106, x107, x108, x109, x110, x111, x112, x113, x114, x115, x116, x117, x118, x119, x120, x121, x122, x123, x124], defers := [] } : Act) X := by
    intro f  X F  hHeld
    refine wpAnyH_ready (rs := [1, 13]) (by kernel_rfl) (by simp) ?_
    refine AllReadyH.cons (o := { dst := some 26, op := Op.call { callee := Callee.value (Operand.func 33), args := #[Operand.tmp 25], argTypes := #[45] }, type := 45, pos := "outright.go:151", after := #[{ on := 0, ground := Ground.data }], guard := none }) rfl (fun K hK => ?_) ?_
    · go_simp
      go_at_call 33
      (with_reducible refine (D1.out _ _ _  F.out ).mono ?_)
      rintro e u ⟨A1, c1, rfl, t, bb⟩
      have F2 := Lib.hid (F.out.step bb)
      have hS2 := hHeld.keep bb
      refine hK.out _ _ hS2 (fun hHeld2 => ?_)
      try simp only [Act.put, List.setIfInBounds_toArray, List.set_cons_zero, List.set_cons_succ]
      exact s110 f A1 c1 u F2 (Lib.hid t) hS2
    refine AllReadyH.cons (o := { dst := some 10, op := Op.alloc 45, type := 0, pos := "outright.go:151", after := #[], guard := none }) rfl (fun K hK => ?_) ?_
    · go_simp
      have F2 := Lib.hid F.out.al10
      have hS2 := hHeld.keep (bal (b0 X) (.cells kz6 45))
      refine hK.out _ _ hS2 (fun hHeld2 => ?_)
      try simp only [Act.put, List.setIfInBounds_toArray, List.set_cons_zero, List.set_cons_succ]
      exact s011 f X.heap.size  _ F2  hS2
    exact AllReadyH.nil
  have s001 : ∀ (g : Nat)  (X : World), Hid (FlX w X none (some g)) → SB p q a b A B n m c d X → wpAnyH Tryd.prog .any opsM2 Q (SB p q a b A B n m c d) 11 #[true, false, true, false, false, false, true, false, true, false, false, false, false, true, false, false] ({ tmps := #[x0, x1, x2, x3, .pointer (some ⟨p, 0, none⟩), .pointer (some ⟨q, 0, none⟩), x6, x7, x8, undef, .pointer (some ⟨g, 0, none⟩), x11, x12, x13, x14, x15, x16, x17, x18, x19, x20, x21, x22, x23, x24, .agg #[.int .u8 (a.k : Int), .int .u8 (a.o : Int), .int .u8 (a.t : Int), .int .i32 a.n, .int .i64 a.v, .slice A n c], undef, .agg #[.int .u8 (b.k : Int), .int .u8 (b.o : Int), .int .u8 (b.t : Int), .int .i32 b.n, .int .i64 b.v, .slice B m d], undef, undef, undef, .agg #[.int .u8 (a.k : Int), .int .u8 (a.o : Int), .int .u8 (a.t : Int), .int .i32 a.n, .int .i64 a.v, .slice A n c], undef, .agg #[.int .u8 (b.k : Int), .int .u8 (b.o : Int), .int .u8 (b.t : Int), .int .i32 b.n, .int .i64 b.v, .slice B m d], undef, undef, undef, x37, x38, x39, x40, x41, x42, x43, x44, x45, x46, x47, x48, x49, x50, x51, x52, x53, x54, x55, x56, x57, x58, x59, x60, x61, x62, x63, x64, x65, x66, x67, x68, x69, x70, x71, x72, x73, x74, x75, x76, x77, x78, x79, x80, x81, x82, x83, x84, x85, x86, x87, x88, x89, x90, x91, x92, x93, x94, x95, x96, x97, x98, x99, x100, x101, x102, x103, x104, x105, x106, x107, x108, x109, x110, x111, x112, x113, x114, x115, x116, x117, x118, x119, x120, x121, x122, x123, x124], defers := [] } : Act) X := by
    intro g  X F  hHeld
    refine wpAnyH_ready (rs := [1, 12]) (by kernel_rfl) (by simp) ?_
    refine AllReadyH.cons (o := { dst := some 26, op := Op.call { callee := Callee.value (Operand.func 33), args := #[Operand.tmp 25], argTypes := #[45] }, type := 45, pos := "outright.go:151", after := #[{ on := 0, ground := Ground.data }], guard := none }) rfl (fun K hK => ?_) ?_
    · go_simp
      go_at_call 33
      (with_reducible refine (D1.out _ _ _  F.out ).mono ?_)
      rintro e u ⟨A1, c1, rfl, t, bb⟩
      have F2 := Lib.hid (F.out.step bb)
      have hS2 := hHeld.keep bb
      refine hK.out _ _ hS2 (fun hHeld2 => ?_)
      try simp only [Act.put, List.setIfInBounds_toArray, List.set_cons_zero, List.set_cons_succ]
      exact s101 g A1 c1 u F2 (Lib.hid t) hS2
    refine AllReadyH.cons (o := { dst := some 9, op := Op.alloc 45, type := 0, pos := "outright.go:151", after := #[], guard := none }) rfl (fun K hK => ?_) ?_
    · go_simp
      have F2 := Lib.hid F.out.al9
      have hS2 := hHeld.keep (bal (b0 X) (.cells kz6 45))
      refine hK.out _ _ hS2 (fun hHeld2 => ?_)
      try simp only [Act.put, List.setIfInBounds_toArray, List.set_cons_zero, List.set_cons_succ]
      exact s011 X.heap.size g  _ F2  hS2
    exact AllReadyH.nil
  have s000 : ∀   (X : World), Hid (FlX w X none none) → SB p q a b A B n m c d X → wpAnyH Tryd.prog .any opsM2 Q (SB p q a b A B n m c d) 12 #[true, false, true, false, false, false, true, false, true, false, false, false, false, false, false, false] ({ tmps := #[x0, x1, x2, x3, .pointer (some ⟨p, 0, none⟩), .pointer (some ⟨q, 0, none⟩), x6, x7, x8, undef, undef, x11, x12, x13, x14, x15, x16, x17, x18, x19, x20, x21, x22, x23, x24, .agg #[.int .u8 (a.k : Int), .int .u8 (a.o : Int), .int .u8 (a.t : Int), .int .i32 a.n, .int .i64 a.v, .slice A n c], undef, .agg #[.int .u8 (b.k : Int), .int .u8 (b.o : Int), .int .u8 (b.t : Int), .int .i32 b.n, .int .i64 b.v, .slice B m d], undef, undef, undef, .agg #[.int .u8 (a.k : Int), .int .u8 (a.o : Int), .int .u8 (a.t : Int), .int .i32 a.n, .int .i64 a.v, .slice A n c], undef, .agg #[.int .u8 (b.k : Int), .int .u8 (b.o : Int), .int .u8 (b.t : Int), .int .i32 b.n, .int .i64 b.v, .slice B m d], undef, undef, undef, x37, x38, x39, x40, x41, x42, x43, x44, x45, x46, x47, x48, x49, x50, x51, x52, x53, x54, x55, x56, x57, x58, x59, x60, x61, x62, x63, x64, x65, x66, x67, x68, x69, x70, x71, x72, x73, x74, x75, x76, x77, x78, x79, x80, x81, x82, x83, x84, x85, x86, x87, x88, x89, x90, x91, x92, x93, x94, x95, x96, x97, x98, x99, x100, x101, x102, x103, x104, x105, x106, x107, x108, x109, x110, x111, x112, x113, x114, x115, x116, x117, x118, x119, x120, x121, x122, x123, x124], defers := [] } : Act) X := by
    intro   X F  hHeld
    refine wpAnyH_ready (rs := [1, 12, 13]) (by kernel_rfl) (by simp) ?_
    refine AllReadyH.cons (o := { dst := some 26, op := Op.call { callee := Callee.value (Operand.func 33), args := #[Operand.tmp 25], argTypes := #[45] }, type := 45, pos := "outright.go:151", after := #[{ on := 0, ground := Ground.data }], guard := none }) rfl (fun K hK => ?_) ?_
    · go_simp
      go_at_call 33
      (with_reducible refine (D1.out _ _ _  F.out ).mono ?_)
      rintro e u ⟨A1, c1, rfl, t, bb⟩
      have F2 := Lib.hid (F.out.step bb)
      have hS2 := hHeld.keep bb
      refine hK.out _ _ hS2 (fun hHeld2 => ?_)
      try simp only [Act.put, List.setIfInBounds_toArray, List.set_cons_zero, List.set_cons_succ]
      exact s100  A1 c1 u F2 (Lib.hid t) hS2
    refine AllReadyH.cons (o := { dst := some 9, op := Op.alloc 45, type := 0, pos := "outright.go:151", after := #[], guard := none }) rfl (fun K hK => ?_) ?_
    · go_simp
      have F2 := Lib.hid F.out.al9
      have hS2 := hHeld.keep (bal (b0 X) (.cells kz6 45))
      refine hK.out _ _ hS2 (fun hHeld2 => ?_)
      try simp only [Act.put, List.setIfInBounds_toArray, List.set_cons_zero, List.set_cons_succ]
      exact s010 X.heap.size  _ F2  hS2
    refine AllReadyH.cons (o := { dst := some 10, op := Op.alloc 45, type := 0, pos := "outright.go:151", after := #[], guard := none }) rfl (fun K hK => ?_) ?_
    · go_simp
      have F2 := Lib.hid F.out.al10
      have hS2 := hHeld.keep (bal (b0 X) (.cells kz6 45))
      refine hK.out _ _ hS2 (fun hHeld2 => ?_)
      try simp only [Act.put, List.setIfInBounds_toArray, List.set_cons_zero, List.set_cons_succ]
      exact s001 X.heap.size  _ F2  hS2
    exact AllReadyH.nil
  have F0 : Hid (FlX w w.drew none none) := Lib.hid (.new (bdrew (b0 w) 1))
  have h0 : SB p q a b A B n m c d w.drew := HS.out _ F0.out.b
  show (Code.region 2 opsM2 true).wp Tryd.prog Q _ w
  refine wp_region_held_drew (S := SB p q a b A B n m c d) (by kernel_rfl) h0 (fun hHeld => ?_)
  show wpAnyH _ _ _ _ _ 16 #[false, false, false, false, false, false, false, false, false, false, false, false, false, false, false, false] _ _
  refine wpAnyH_take (i := 0) (oi := { dst := some 25, op := Op.load 45 (Operand.tmp 4), type := 45, pos := "outright.go:151", after := #[], guard := none }) (v := .agg #[.int .u8 (a.k : Int), .int .u8 (a.o : Int), .int .u8 (a.t : Int), .int .i32 a.n, .int .i64 a.v, .slice A n c]) rfl (by kernel_rfl) (by kernel_rfl) (by kernel_rfl) (fun _ _ _ h => hP _ _ _ _ _ h) (Or.inl ⟨by rfl, fun w5 hSw => by obtain ⟨x0_, x1_, x2_, x3_, x4_, x5_, y0_, y1_, y2_, y3_, y4_, y5_⟩ := hSw; go_simp⟩) hHeld ?_
  try simp only [Act.put, List.setIfInBounds_toArray, List.set_cons_zero, List.set_cons_succ]
  refine wpAnyH_take (i := 2) (oi := { dst := some 27, op := Op.load 45 (Operand.tmp 5), type := 45, pos := "outright.go:151", after := #[], guard := none }) (v := .agg #[.int .u8 (b.k : Int), .int .u8 (b.o : Int), .int .u8 (b.t : Int), .int .i32 b.n, .int .i64 b.v, .slice B m d]) rfl (by kernel_rfl) (by kernel_rfl) (by kernel_rfl) (fun _ _ _ h => hP _ _ _ _ _ h) (Or.inl ⟨by rfl, fun w5 hSw => by obtain ⟨x0_, x1_, x2_, x3_, x4_, x5_, y0_, y1_, y2_, y3_, y4_, y5_⟩ := hSw; go_simp⟩) hHeld ?_
  try simp only [Act.put, List.setIfInBounds_toArray, List.set_cons_zero, List.set_cons_succ]
  refine wpAnyH_take (i := 6) (oi := { dst := some 31, op := Op.load 45 (Operand.tmp 4), type := 45, pos := "outright.go:151", after := #[], guard := none }) (v := .agg #[.int .u8 (a.k : Int), .int .u8 (a.o : Int), .int .u8 (a.t : Int), .int .i32 a.n, .int .i64 a.v, .slice A n c]) rfl (by kernel_rfl) (by kernel_rfl) (by kernel_rfl) (fun _ _ _ h => hP _ _ _ _ _ h) (Or.inl ⟨by rfl, fun w5 hSw => by obtain ⟨x0_, x1_, x2_, x3_, x4_, x5_, y0_, y1_, y2_, y3_, y4_, y5_⟩ := hSw; go_simp⟩) hHeld ?_
  try simp only [Act.put, List.setIfInBounds_toArray, List.set_cons_zero, List.set_cons_succ]
  refine wpAnyH_take (i := 8) (oi := { dst := some 33, op := Op.load 45 (Operand.tmp 5), type := 45, pos := "outright.go:151", after := #[], guard := none }) (v := .agg #[.int .u8 (b.k : Int), .int .u8 (b.o : Int), .int .u8 (b.t : Int), .int .i32 b.n, .int .i64 b.v, .slice B m d]) rfl (by kernel_rfl) (by kernel_rfl) (by kernel_rfl) (fun _ _ _ h => hP _ _ _ _ _ h) (Or.inl ⟨by rfl, fun w5 hSw => by obtain ⟨x0_, x1_, x2_, x3_, x4_, x5_, y0_, y1_, y2_, y3_, y4_, y5_⟩ := hSw; go_simp⟩) hHeld ?_
  try simp only [Act.put, List.setIfInBounds_toArray, List.set_cons_zero, List.set_cons_succ]
  exact s000 _ F0 h0
end Go.Proofs.YtblckajejohlbaaDoor
