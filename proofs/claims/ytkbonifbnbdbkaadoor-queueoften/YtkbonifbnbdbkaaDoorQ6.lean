/-
  What keep of package queue does.
-/
import Derived.Test.YtkbonifbnbdbkaaDoorQ5
import Derived.Deep.AppendLies
namespace Go.Proofs.YtkbonifbnbdbkaaDoor
open Go.RowKit

/-- An item stored by append ahead of the row's end: for the walk. -/
theorem wpList_putAt {w : World} {B c g : Nat} {L : List Itm} {ops : Array Oper} {rest : List Oper} {o : Oper} {act : Act} {Q : Exit → Act → World → Prop} (hgd : o.guard = none) (s x : Operand)
    (ho : o.op = .call { callee := .builtin .append, args := #[s, x], argTypes := #[43, 43] }) (h : OwnI w B (some ⟨g, 0, none⟩) c L) (k : Nat) (hk : k < L.length) (y : Itm) (sc : Nat) (hs : act.eval s = .slice (some ⟨g, 0, none⟩) k sc) (hsc : k + 1 ≤ sc)
    (ad : Addr) (cc : Nat) (hx : act.eval x = .slice (some ad) 1 cc) (hnews : ∀ j u, (encI y)[j]? = some u → w.cell? (ad.add j) = some u)
    (hK : ∀ w', OwnI w' B (some ⟨g, 0, none⟩) c (L.set k y) → w.grownBy w' (some g) → wpList Tryd.prog ops Q rest (act.put o.dst (.slice (some ⟨g, 0, none⟩) (k + 1) sc)) w') : wpList Tryd.prog ops Q (o :: rest) act w :=
  wpList_plain hgd fun K hK' => by
    obtain ⟨w', hr, h1, h2⟩ := h.putAt k hk y ad hnews sc hsc cc o.type
    unfold Oper.wp execOp
    simp only [ho, resolve, invoke, builtin, Sem.run_bind, Sem.run_pure, Result.andThen_ok, List.map_toArray, List.map_cons, List.map_nil, hs, hx, hr]
    exact hK' _ _ (hK w' h1 h2)
theorem clearI_empty (a : Option Addr) (cc : Nat) (w : World) (ty : TypeId) : (Builtin.clear_ #[43] ty #[.slice a 0 cc]).run Tryd.prog w = .ok (.tuple #[]) w := by
  have hu := run_underlying (P := Tryd.prog) (t := 43) Tryd.underlying43
  cases a <;> simp [Builtin.clear_, hu]
theorem OwnI.setQ {w : World} {B c sb n c2 : Nat} {a a2 : Option Addr} {p l : Int} {L : List Itm} (h : OwnI w B a c L) (hb : QBlk w sb a2 n c2 p l) (j : Nat) (v : Value) : OwnI (w.setCell ⟨sb, j, none⟩ v) B a c L :=
  h.keep fun q e => Below.heap_setCell w _ _ _ (fun e2 => hb.ne h q e e2.symm)

set_option maxRecDepth 100000 in
set_option maxHeartbeats 4000000 in
theorem qKeep_any (sb B c : Nat) (a : Option Addr) (L : List Itm) (p l : Int) (f : Nat) (lb : Array Value) (pr : Itm → Bool) (eg : ∀ args w, (callFunc f args).run Tryd.prog w = .ok (.enter f args) w) (w : World) (h : QAt w B sb a c L p l) (hL : L.length ≤ 1000)
    (hp : ∀ W, QTurn w W sb a → ∀ x : Itm, Calls Tryd.prog f (#[.agg #[.string x.e.k, .int .i64 x.e.t, .int .u16 x.e.o, .string x.e.v, .int .i64 x.e.u, .int .i64 x.s, .int .i64 x.q]] ++ lb) W fun e w' => e = .returned (.bool (pr x)) ∧ Below W.heap.size W w') :
    Calls Tryd.prog 20 #[.pointer (some ⟨sb, 0, none⟩), .func (.func f) #[] lb] w fun e w' => e = .returned (.tuple #[]) ∧ (∃ c', QAt w' B sb a c' (L.filter pr) p l) ∧ QTurn w w' sb a := by
  have HP := Lib.hid hp
  clear hp
  rcases h.2 with ⟨rfl, rfl, rfl⟩ | ⟨g, cur, rfl, -⟩
  · have c0 := h.1.c0
    have f0 := h.1.f 0
    have HH := Lib.hid h
    clear h
    go_enter Tryd.func20, Tryd.ntmps20
    go_wp2_with fail
    go_quiet (fail)
    go_wp2
    refine wp_loop_rounds 1 ?_
    rw [rounds_succ]
    have hcl := clearI_empty none 0
    go_wp2
    go_end0
    have hb : QBlk (w.drewN nq) sb none 0 0 p l := HH.out.1
    refine ⟨rfl, ⟨0, hb.set0, OwnI.nil _ _⟩, ?_⟩
    exact (QTurn.of (show Below w.heap.size w (w.drewN nq) from ⟨rfl, rfl, rfl, Nat.le_refl _, fun _ _ => rfl⟩) sb none).step (QTurn.set _ sb 0 none _)
  · obtain ⟨n, hn⟩ : ∃ n, L.length = n := ⟨_, rfl⟩
    have hcap := h.2.cap
    have c0 := h.1.c0
    have f0 := h.1.f 0
    have hne := h.ne _ rfl
    have hgw := (h.has _ rfl).2.1
    have hsw := h.1.lt
    dsimp only at hne hgw
    have HI0 : Hid (∀ q, MidI pr L L 0 0 ∧ QBlk (w.drewN q) sb (some ⟨g, 0, none⟩) n c p l ∧ OwnI (w.drewN q) B (some ⟨g, 0, none⟩) c L ∧ QTurn w (w.drewN q) sb (some ⟨g, 0, none⟩)) := Lib.hid (fun q => ⟨MidI.start pr L, by rw [← hn]; exact h.1, h.2, QTurn.of (show Below w.heap.size w (w.drewN q) from ⟨rfl, rfl, rfl, Nat.le_refl _, fun _ _ => rfl⟩) _ _⟩)
    rw [hn] at hcap c0
    have hn9 : n ≤ 1000 := by omega
    have hnc : (n : Int) ≤ (c : Int) := by omega
    have HN := Lib.hid hn
    have HR := Lib.hid (And.intro hne (And.intro hgw hsw))
    clear h hn hne hgw hsw
    go_enter Tryd.func20, Tryd.ntmps20
    go_wp2_with fail
    go_quiet (fail)
    go_wp2
    go_loopw [4, 22] (fun v4 v22 wr => ∃ (i k : Nat) (M : List Itm), i ≤ k ∧ k ≤ n ∧ v4 = .slice (some ⟨g, 0, none⟩) i n ∧ v22 = .int .i64 k ∧ Hid (MidI pr L M i k ∧ QBlk wr sb (some ⟨g, 0, none⟩) n c p l ∧ OwnI wr B (some ⟨g, 0, none⟩) c M ∧ QTurn w wr sb (some ⟨g, 0, none⟩))) (fun _ v22 _ => n - (intOf v22).toNat)
    case atStart => exact ⟨0, 0, L, Nat.le_refl _, Nat.zero_le _, rfl, rfl, Lib.hid (HI0.out _)⟩
    case round =>
      clear HI0 c0 f0
      obtain ⟨i, k, M, hik, hkn, rfl, rfl, HM⟩ := hrel
      by_cases hlt : k < n
      · have hkl : (k : Int) < (n : Int) := by omega
        have hkL : k < L.length := by have := HN.out; omega
        have hkM : k < M.length := by have := HM.out.1.1; omega
        have hiM : i < M.length := by omega
        have hrow := HM.out.2.2.1.row k hkM
        rw [HM.out.1.at hkL hkM] at hrow
        have HS1 : Hid (pr L[k] = false → MidI pr L M i (k + 1)) := Lib.hid (fun h => HM.out.1.gone hkL h)
        have HS2 : Hid (pr L[k] = true → MidI pr L (M.set i L[k]) (i + 1) (k + 1)) := Lib.hid (fun h => HM.out.1.stays hkL h)
        have HIM := Lib.hid hiM
        generalize L[k] = x at *
        clear hkL hkM hiM
        have d2 := (Below.refl wr.heap.size wr).alloc (Nat.le_refl _) (.cells #[.string x.e.k, .int .i64 x.e.t, .int .u16 x.e.o, .string x.e.v, .int .i64 x.e.u, .int .i64 x.s, .int .i64 x.q] 47)
        have HCc := Lib.hid (HP.out _ (HM.out.2.2.2.on d2) x)
        have HB2 := Lib.hid (IBlk.new wr x)
        have HM2 : Hid (QBlk (wr.alloc (.cells #[.string x.e.k, .int .i64 x.e.t, .int .u16 x.e.o, .string x.e.v, .int .i64 x.e.u, .int .i64 x.s, .int .i64 x.q] 47)) sb (some ⟨g, 0, none⟩) n c p l ∧ OwnI (wr.alloc (.cells #[.string x.e.k, .int .i64 x.e.t, .int .u16 x.e.o, .string x.e.v, .int .i64 x.e.u, .int .i64 x.s, .int .i64 x.q] 47)) B (some ⟨g, 0, none⟩) c M ∧ QTurn w (wr.alloc (.cells #[.string x.e.k, .int .i64 x.e.t, .int .u16 x.e.o, .string x.e.v, .int .i64 x.e.u, .int .i64 x.s, .int .i64 x.q] 47)) sb (some ⟨g, 0, none⟩)) := Lib.hid ⟨HM.out.2.1.on d2, HM.out.2.2.1.on d2, HM.out.2.2.2.on d2⟩
        clear d2 HM
        generalize pr x = q at *
        obtain ⟨r0, r1, r2, r3, r4, r5, r6⟩ := hrow
        obtain ⟨⟨kx, tx, ox, vx, ux⟩, sx, qx⟩ := x
        dsimp only at r0 r1 r2 r3 r4 r5 r6 HCc HB2 HM2
        go_wp2_with (go_at_fn f; refine HCc.out.mono ?_; rintro e w2 ⟨rfl, q2⟩; refine Hid.out ?_)
        refine Lib.hid ?_
        have bx := HB2.out.on q2
        have HM3 : Hid (QBlk w2 sb (some ⟨g, 0, none⟩) n c p l ∧ OwnI w2 B (some ⟨g, 0, none⟩) c M ∧ QTurn w w2 sb (some ⟨g, 0, none⟩)) := Lib.hid ⟨HM2.out.1.on q2, HM2.out.2.1.on q2, HM2.out.2.2.on q2⟩
        clear r0 r1 r2 r3 r4 r5 r6 HCc HB2 HM2 q2
        cases q with
        | false =>
          have HF := Lib.hid (HS1.out (by simp))
          clear bx HS1 HS2
          go_wp2
          go_roundw
          case rel => exact ⟨i, k + 1, M, by omega, by omega, rfl, by go_num, Lib.hid ⟨HF.out, HM3.out⟩⟩
          case measure => simp [intOf]; omega
        | true =>
          have HF := Lib.hid (HS2.out (by simp))
          obtain ⟨x0, x1, x2, x3, x4, x5, x6⟩ := bx.cs
          dsimp only at x0 x1 x2 x3 x4 x5 x6
          have d3 := (Below.refl w2.heap.size w2).alloc (Nat.le_refl _) (.cells #[.string kx, .int .i64 tx, .int .u16 ox, .string vx, .int .i64 ux, .int .i64 sx, .int .i64 qx] 47)
          have hnews := World.news_of_block (newE w2 (.cells #[.string kx, .int .i64 tx, .int .u16 ox, .string vx, .int .i64 ux, .int .i64 sx, .int .i64 qx] 47))
          have how := HM3.out.2.1.on d3
          have HM4 := Lib.hid (And.intro (HM3.out.1.on d3) (HM3.out.2.2.on d3))
          have hiM := HIM.out
          clear bx HS1 HS2 HM3 d3
          go_wp2_with (at_builtin; refine wpList_putAt rfl _ _ rfl how i hiM ⟨⟨kx, tx, ox, vx, ux⟩, sx, qx⟩ n rfl (by omega) _ _ rfl hnews ?_; intro w5 o5 g5; refine Hid.out ?_)
          refine Lib.hid ?_
          have HG : Hid (MidI pr L (M.set i ⟨⟨kx, tx, ox, vx, ux⟩, sx, qx⟩) (i + 1) (k + 1) ∧ QBlk w5 sb (some ⟨g, 0, none⟩) n c p l ∧ OwnI w5 B (some ⟨g, 0, none⟩) c (M.set i ⟨⟨kx, tx, ox, vx, ux⟩, sx, qx⟩) ∧ QTurn w w5 sb (some ⟨g, 0, none⟩)) := Lib.hid ⟨HF.out, HM4.out.1.kept g5 (fun e => HR.out.1 (Option.some.inj e)), o5, HM4.out.2.step (QTurn.grown g5 sb rfl)⟩
          clear how hnews hiM HM4 o5 g5 HF x0 x1 x2 x3 x4 x5 x6
          go_wp2
          go_roundw
          case rel => exact ⟨i + 1, k + 1, _, by omega, by omega, by go_num, by go_num, HG⟩
          case measure => simp [intOf]; omega
      · have hkl : ¬ (k : Int) < (n : Int) := by omega
        obtain rfl : k = n := by omega
        obtain ⟨hm, hb, ho, ht⟩ := HM.out
        rw [← HN.out] at hm
        obtain ⟨e1, e2⟩ := hm.end
        have hML : M.length = k := by have := hm.1; have := HN.out; omega
        have c0 := hb.c0
        have hik' : (i : Int) ≤ (k : Int) := by omega
        by_cases hi : i < k
        · obtain ⟨w', hcl, ho', hg'⟩ := ho.clear i (by omega) (c - i)
          rw [hML] at hcl
          rw [e1] at ho'
          have b2 := hb.kept hg' (fun e => HR.out.1 (Option.some.inj e))
          have t2 := ht.step (QTurn.grown hg' sb rfl)
          have c0' := b2.c0
          have f0' := b2.f 0
          have HF := Lib.hid (And.intro b2 (And.intro ho' (And.intro t2 e2)))
          have hne : ¬ c = i := by omega
          clear hb ho ht hm e1 e2 ho' hg' b2 t2 HM
          go_wp2
          go_end0
          obtain ⟨b2, ho', t2, e2⟩ := HF.out
          have b3 : QBlk (w'.setCell ⟨sb, 0, none⟩ (.slice (some ⟨g, 0, none⟩) i k)) sb (some ⟨g, 0, none⟩) (L.filter pr).length k p l := by rw [e2]; exact b2.set0
          have o3 := (ho'.first i k (by omega) (by omega) (by omega)).setQ b2 0 (.slice (some ⟨g, 0, none⟩) i k)
          rw [List.take_of_length_le (by omega)] at o3
          exact ⟨rfl, ⟨k, b3, o3⟩, t2.step (QTurn.set _ sb 0 _ _)⟩
        · obtain rfl : i = k := by omega
          have f0' := hb.f 0
          have hcl := fun a cc => clearI_empty a cc wr
          rw [List.take_of_length_le (by omega)] at e1
          subst e1
          have HF := Lib.hid (And.intro hb (And.intro ho (And.intro ht e2)))
          clear hb ho ht hm e2 HM
          by_cases hci : c = i
          all_goals
            go_wp2
            go_end0
            obtain ⟨b2, ho', t2, e2⟩ := HF.out
            have b3 : QBlk (wr.setCell ⟨sb, 0, none⟩ (.slice (some ⟨g, 0, none⟩) i i)) sb (some ⟨g, 0, none⟩) (L.filter pr).length i p l := by rw [e2]; exact b2.set0
            have o3 := (ho'.first i i (by omega) (by omega) (by omega)).setQ b2 0 (.slice (some ⟨g, 0, none⟩) i i)
            rw [List.take_of_length_le (by omega)] at o3
            exact ⟨rfl, ⟨i, b3, o3⟩, t2.step (QTurn.set _ sb 0 _ _)⟩

end Go.Proofs.YtkbonifbnbdbkaaDoor
