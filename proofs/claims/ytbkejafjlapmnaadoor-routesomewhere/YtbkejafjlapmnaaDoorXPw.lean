/-
  How the reference reads a pattern.
-/
import Derived.Test.YtbkejafjlapmnaaDoorXPs
import Derived.Great.BuildSlice
namespace Go.Proofs.YtbkejafjlapmnaaDoor
open Go.RowKit

theorem wpList_append_tree {ops : Array Oper} {rest : List Oper} {o : Oper} {a : Act} {w : World} {Q : Exit → Act → World → Prop} (hgd : o.guard = none) (s x : Operand)
    (ho : o.op = .call { callee := .builtin .append, args := #[s, x], argTypes := #[106, 106] }) (B : Nat) (v : Value) (ts : List TV) (hs : a.eval s = v) (hown : OwnTr w B v ts)
    (g c : Nat) (p : TV) (hx : a.eval x = .slice (some ⟨g, 0, none⟩) 1 c) (hg : TreeBlk w g p) (hb : ts.length ≤ 1000) (hB : B ≤ w.heap.size)
    (h : ∀ a' c' w', OwnTr w' B (.slice a' (ts.length + 1) c') (ts ++ [p]) → w.grownBy w' v.ownBlock → ((Value.slice a' (ts.length + 1) c').ownBlock = v.ownBlock ∨ (Value.slice a' (ts.length + 1) c').ownBlock = some w.heap.size) → wpList Tryd.prog ops Q rest (a.put o.dst (.slice a' (ts.length + 1) c')) w') :
    wpList Tryd.prog ops Q (o :: rest) a w := by
  refine wpList_plain hgd fun K hK => ?_
  obtain ⟨a', c', w', hr, h2, h3, h4⟩ := run_append_tree o.type w B v ts hown g c p hg.cell hb hB
  unfold Oper.wp execOp
  simp only [ho, resolve, invoke, builtin, Sem.run_bind, Sem.run_pure, Result.andThen_ok, List.map_toArray, List.map_cons, List.map_nil, hs, hx, hr]
  exact hK _ _ (h a' c' w' h2 h3 h4)

theorem wpList_load_tree {ops : Array Oper} {rest : List Oper} {o : Oper} {a : Act} {w : World} {Q : Exit → Act → World → Prop} (hgd : o.guard = none) (x : Operand) (ho : o.op = .load 108 x) (b : Nat) (hx : a.eval x = .pointer (some ⟨b, 0, none⟩)) {t : TV} (h : TreeBlk w b t)
    (hk : wpList Tryd.prog ops Q rest (a.put o.dst (.agg (treeC t))) w) : wpList Tryd.prog ops Q (o :: rest) a w :=
  wpList_plain hgd fun _ hK => wp_load_tree x ho b hx h (hK _ _ hk)

theorem wpList_build_tree {ops : Array Oper} {rest : List Oper} {o : Oper} {a : Act} {w : World} {Q : Exit → Act → World → Prop} (hgd : o.guard = none) (x : Operand) (ho : o.op = .buildSlice 106 1 #[(0, x)]) (t : TV) (hx : a.eval x = .agg (treeC t))
    (hk : wpList Tryd.prog ops Q rest (a.put o.dst (.slice (some ⟨w.heap.size, 0, none⟩) 1 1)) (w.alloc (.cells (treeC t) 108))) : wpList Tryd.prog ops Q (o :: rest) a w := by
  obtain ⟨i0, hi, hi0, hi1, hi2⟩ := info_parts infoTree
  refine wpList_buildSlice hgd 106 108 1 #[(0, x)] ho (treeC t) i0 _ Tryd.underlying106 hi hi0 (by rw [hi1]; decide) (by rw [hi1]; decide) ?_ hk
  rw [hi1]
  have h := Go.Great.fill_whole (s := 258) (by decide) [Value.agg (treeC t)] ((Array.range (1 * 258)).map ((Value.agg (treeC (noT 0))).cells[· % (Value.agg (treeC (noT 0))).cells.size]!)) (fun v hv => by
    obtain rfl := List.mem_singleton.1 hv
    exact treeC_size t) (by simp)
  simp only [List.map_toArray, List.map_cons, List.map_nil, hx]
  refine h.trans ?_
  simp [Value.cells]

/-- What parse tells. -/
def ParE (s : ByteArray) (u : World) (e : Ending) (w' : World) : Prop :=
  (pL noL epsL s.data.toList = none ∧ ∃ t, e = .returned (.tuple #[.agg (treeC t), .string ⟨#[]⟩, .bool false])) ∨
  ∃ A s2 t, pL noL epsL s.data.toList = some (A, s2.data.toList) ∧ e = .returned (.tuple #[.agg (treeC t), .string s2, .bool true]) ∧ ∃ d, Den d w' (fun b => u.heap.size ≤ b ∧ b < w'.heap.size) t A

theorem foldl_snoc {α : Type} (f : Lang → α → Lang) (z : Lang) (l : List α) (x : α) : (l ++ [x]).foldl f z = f (l.foldl f z) x := by simp

set_option maxRecDepth 20000 in
set_option maxHeartbeats 8000000 in
theorem eparse_any (s : ByteArray) (w : World) (hs : s.size ≤ 200) (IH : ∀ s1 : ByteArray, s1.size < s.size → ParIH s1) :
    Calls Tryd.prog 87 #[.string s] w fun e w' => ParE s w e w' ∧ Below w.heap.size w w' := by
  have kz := zero_tree
  have kn := treeC_size
  have kb1 : (treeC (noT 0)).setIfInBounds 0 (.int .i64 1) = treeC (noT 1) := build_k 1
  have kb2 : (treeC (noT 0)).setIfInBounds 0 (.int .i64 2) = treeC (noT 2) := build_k 2
  have ks2 := store_last (w.alloc (.cells (treeC (noT 0)) 108)) (w.heap.size + 1) (by simp) (noT 0) (noT 2)
  have ks1 := store_last ((w.alloc (.cells (treeC (noT 0)) 108)).alloc (.cells (treeC (noT 2)) 108)) (w.heap.size + 1 + 1) (by simp) (noT 0) (noT 1)
  go_enter Tryd.func87, Tryd.ntmps87
  go_wp2_with fail
  have tz := ((TreeBlk.new w (noT 0)).alloc (.cells (treeC (noT 2)) 108)).alloc (.cells (treeC (noT 1)) 108)
  have tt := (TreeBlk.new' (w.alloc (.cells (treeC (noT 0)) 108)) (noT 2) (w.heap.size + 1) (by simp)).alloc (.cells (treeC (noT 1)) 108)
  have tr := TreeBlk.new' ((w.alloc (.cells (treeC (noT 0)) 108)).alloc (.cells (treeC (noT 2)) 108)) (noT 1) (w.heap.size + 1 + 1) (by simp)
  have hb := (((Below.refl w.heap.size w).alloc (Nat.le_refl _) (.cells (treeC (noT 0)) 108)).alloc (by simp) (.cells (treeC (noT 2)) 108)).alloc (by simp; omega) (.cells (treeC (noT 1)) 108)
  have hz : w.heap.size + 3 ≤ (((w.alloc (.cells (treeC (noT 0)) 108)).alloc (.cells (treeC (noT 2)) 108)).alloc (.cells (treeC (noT 1)) 108)).heap.size := by simp
  generalize ((w.alloc (.cells (treeC (noT 0)) 108)).alloc (.cells (treeC (noT 2)) 108)).alloc (.cells (treeC (noT 1)) 108) = W at *
  have hps : PS w W (fun _ => False) none 0 [] [] none 0 [] [] 0 := ⟨tt, tz, World.ownsRow_nil _ _ _ _, World.ownsRow_nil _ _ _ _, (fun b hb => by cases hb), (fun b e => e.elim), Dens.nil _ _ _, Dens.nil _ _ _, hb, hz⟩
  clear tt tz hb hz ks1 ks2 kb2
  go_loopw [0] (fun sv wr => ∃ (s1 : ByteArray) (aT : Option Addr) (cT : Nat) (ts : List TV) (Ls : List Lang) (aR : Option Addr) (cR : Nat) (rs : List TV) (Ms : List Lang) (d : Nat), sv = .string s1 ∧ s1.size + ts.length + rs.length ≤ s.size ∧ Hid (pL (Ls.foldl altL noL) (Ms.foldl catL epsL) s1.data.toList = pL noL epsL s.data.toList) ∧ PS w wr (fun _ => False) aT cT ts Ls aR cR rs Ms d ∧ TreeBlk wr (w.heap.size + 1 + 1) ⟨1, noneB, aR, rs.length, cR⟩) (fun sv _ => strSize sv)
  case atStart => exact ⟨s, none, 0, [], [], none, 0, [], [], 0, rfl, by simp, Lib.hid rfl, hps, tr⟩
  case round =>
    clear hps tr
    obtain ⟨s1, aT, cT, ts, Ls, aR, cR, rs, Ms, d, rfl, hsz, HI, hps, tr⟩ := hrel
    obtain ⟨wo, rfl⟩ : ∃ x, x = wr := ⟨_, rfl⟩
    have ct := hps.t.parts
    have hws := hps.sz
    by_cases h0 : s1.size = 0
    · have hp : ¬ (0 : Int) < (s1.size : Int) := by omega
      have HE := Lib.hid (pL_end (Ls.foldl altL noL) (Ms.foldl catL epsL) s1.data.toList (.inl (by rw [bytes_nil h0]; rfl)))
      clear h0
      go_wp2_with (first | (with_reducible change wpList Tryd.prog _ _ (_ :: _) _ _; refine wpList_load_tree rfl _ rfl _ rfl tr ?_) | (with_reducible change wpList Tryd.prog _ _ (_ :: _) _ _; refine wpList_build_tree rfl _ rfl _ rfl ?_) | (at_builtin; refine Hid.out ?_))
      refine Lib.hid ?_
      have hA := (Below.refl wo.heap.size wo).alloc (Nat.le_refl _) (.cells (treeC ⟨1, noneB, aR, rs.length, cR⟩) 108)
      have hps1 := hps.below hA
      refine wpList_append_tree rfl _ _ rfl (w.heap.size + 3) (.slice aT ts.length cT) ts rfl hps1.ot wo.heap.size 1 ⟨1, noneB, aR, rs.length, cR⟩ rfl (TreeBlk.new wo _) (by omega) (by simp; omega) ?_
      intro a' c' w2 ho hg hm
      have hps2 := hps1.addT ho hg hm
      have ct2 : w2.cell? ⟨w.heap.size + 1, 257, none⟩ = some (.slice aT ts.length cT) := (hps1.t.kept hg (hps1.tne _ (by omega))).parts
      have cf2 : w2.frozen? ⟨w.heap.size + 1, 257, none⟩ = false := (hps1.t.kept hg (hps1.tne _ (by omega))).frozen 257
      have tr2 := (((tr.below hA).kept hg (hps1.tne _ (by omega))).of (show (w2.setCell ⟨w.heap.size + 1, 257, none⟩ (.slice a' (ts.length + 1) c')).heap[w.heap.size + 1 + 1]? = w2.heap[w.heap.size + 1 + 1]? from (grownBy_setCell w2 (w.heap.size + 1) 257 _).block _ (by have := hg.size; simp at this; omega) (by simp)))
      clear ct hA ho hg hm
      have t3 := hps2.t
      have hd := hps2.tree
      have hlt : (ts ++ [(⟨1, noneB, aR, rs.length, cR⟩ : TV)]).length = ts.length + 1 := by simp
      rw [hlt] at t3 hd
      have ks := hps2.z.storeCells ⟨2, noneB, a', ts.length + 1, c'⟩
      have t4 := hps2.z.row ⟨2, noneB, a', ts.length + 1, c'⟩
      have hb4 := below_setRow hps2.bl w.heap.size (Nat.le_refl _) (treeC ⟨2, noneB, a', ts.length + 1, c'⟩)
      have HD : Hid (Den (d + 1 + 1) ((w2.setCell ⟨w.heap.size + 1, 257, none⟩ (.slice a' (ts.length + 1) c')).setRow w.heap.size (treeC ⟨2, noneB, a', ts.length + 1, c'⟩)) (fun b => w.heap.size ≤ b ∧ b < ((w2.setCell ⟨w.heap.size + 1, 257, none⟩ (.slice a' (ts.length + 1) c')).setRow w.heap.size (treeC ⟨2, noneB, a', ts.length + 1, c'⟩)).heap.size) ⟨2, noneB, a', ts.length + 1, c'⟩ (altL (Ls.foldl altL noL) (Ms.foldl catL epsL))) := Lib.hid (by
        rw [foldl_snoc] at hd
        exact Den.keep (fun b hb => setRow_other _ _ _ _ (by omega)) (fun b hb => ⟨by omega, by rw [size_setRow]; exact hb.2⟩) _ _ _ hd)
      clear hps hps1 hps2 tr tr2 hd hlt
      go_wp2_with (with_reducible change wpList Tryd.prog _ _ (_ :: _) _ _; refine wpList_load_tree rfl _ rfl _ rfl t3 ?_)
      exact bodyPost_ret (results_tree3 rfl _ _ _ rfl t4) rfl ⟨.inr ⟨_, s1, _, HI.out.symm.trans HE.out, rfl, _, HD.out⟩, hb4⟩
    have hp : (0 : Int) < (s1.size : Int) := by omega
    have hp2 : 0 < s1.size := by omega
    have hp1 : (1 : Int) ≤ (s1.size : Int) := by omega
    have HC := Lib.hid (bytes_cons s1 hp2)
    by_cases h41 : s1[0] = 41
    · have q41 : ((s1[0].toNat : Int) != 41) = false := bne_no (n := 41) (by decide) h41
      have HE := Lib.hid (pL_end (Ls.foldl altL noL) (Ms.foldl catL epsL) s1.data.toList (.inr (by rw [HC.out, h41]; rfl)))
      clear h41
      go_wp2_with (first | (with_reducible change wpList Tryd.prog _ _ (_ :: _) _ _; refine wpList_load_tree rfl _ rfl _ rfl tr ?_) | (with_reducible change wpList Tryd.prog _ _ (_ :: _) _ _; refine wpList_build_tree rfl _ rfl _ rfl ?_) | (at_builtin; refine Hid.out ?_))
      refine Lib.hid ?_
      have hA := (Below.refl wo.heap.size wo).alloc (Nat.le_refl _) (.cells (treeC ⟨1, noneB, aR, rs.length, cR⟩) 108)
      have hps1 := hps.below hA
      refine wpList_append_tree rfl _ _ rfl (w.heap.size + 3) (.slice aT ts.length cT) ts rfl hps1.ot wo.heap.size 1 ⟨1, noneB, aR, rs.length, cR⟩ rfl (TreeBlk.new wo _) (by omega) (by simp; omega) ?_
      intro a' c' w2 ho hg hm
      have hps2 := hps1.addT ho hg hm
      have ct2 : w2.cell? ⟨w.heap.size + 1, 257, none⟩ = some (.slice aT ts.length cT) := (hps1.t.kept hg (hps1.tne _ (by omega))).parts
      have cf2 : w2.frozen? ⟨w.heap.size + 1, 257, none⟩ = false := (hps1.t.kept hg (hps1.tne _ (by omega))).frozen 257
      have tr2 := (((tr.below hA).kept hg (hps1.tne _ (by omega))).of (show (w2.setCell ⟨w.heap.size + 1, 257, none⟩ (.slice a' (ts.length + 1) c')).heap[w.heap.size + 1 + 1]? = w2.heap[w.heap.size + 1 + 1]? from (grownBy_setCell w2 (w.heap.size + 1) 257 _).block _ (by have := hg.size; simp at this; omega) (by simp)))
      clear ct hA ho hg hm
      have t3 := hps2.t
      have hd := hps2.tree
      have hlt : (ts ++ [(⟨1, noneB, aR, rs.length, cR⟩ : TV)]).length = ts.length + 1 := by simp
      rw [hlt] at t3 hd
      have ks := hps2.z.storeCells ⟨2, noneB, a', ts.length + 1, c'⟩
      have t4 := hps2.z.row ⟨2, noneB, a', ts.length + 1, c'⟩
      have hb4 := below_setRow hps2.bl w.heap.size (Nat.le_refl _) (treeC ⟨2, noneB, a', ts.length + 1, c'⟩)
      have HD : Hid (Den (d + 1 + 1) ((w2.setCell ⟨w.heap.size + 1, 257, none⟩ (.slice a' (ts.length + 1) c')).setRow w.heap.size (treeC ⟨2, noneB, a', ts.length + 1, c'⟩)) (fun b => w.heap.size ≤ b ∧ b < ((w2.setCell ⟨w.heap.size + 1, 257, none⟩ (.slice a' (ts.length + 1) c')).setRow w.heap.size (treeC ⟨2, noneB, a', ts.length + 1, c'⟩)).heap.size) ⟨2, noneB, a', ts.length + 1, c'⟩ (altL (Ls.foldl altL noL) (Ms.foldl catL epsL))) := Lib.hid (by
        rw [foldl_snoc] at hd
        exact Den.keep (fun b hb => setRow_other _ _ _ _ (by omega)) (fun b hb => ⟨by omega, by rw [size_setRow]; exact hb.2⟩) _ _ _ hd)
      clear hps hps1 hps2 tr tr2 hd hlt
      go_wp2_with (with_reducible change wpList Tryd.prog _ _ (_ :: _) _ _; refine wpList_load_tree rfl _ rfl _ rfl t3 ?_)
      exact bodyPost_ret (results_tree3 rfl _ _ _ rfl t4) rfl ⟨.inr ⟨_, s1, _, HI.out.symm.trans HE.out, rfl, _, HD.out⟩, hb4⟩
    have q41 : ((s1[0].toNat : Int) != 41) = true := bne_yes (n := 41) (by decide) h41
    by_cases h124 : s1[0] = 124
    · have q124 : ((s1[0].toNat : Int) == 124) = true := beq_yes (n := 124) (by decide) h124
      have HB : Hid (pL ((Ls ++ [Ms.foldl catL epsL]).foldl altL noL) (([] : List Lang).foldl catL epsL) (s1.extract 1 s1.size).data.toList = pL noL epsL s.data.toList) := Lib.hid (by
        rw [foldl_snoc, ← HI.out, HC.out, h124, pL_bar]; rfl)
      have hx : (s1.extract 1 s1.size).size + 1 = s1.size := by rw [ByteArray.size_extract]; omega
      clear h124 HI HC
      go_wp2_with (first | (with_reducible change wpList Tryd.prog _ _ (_ :: _) _ _; refine wpList_load_tree rfl _ rfl _ rfl tr ?_) | (with_reducible change wpList Tryd.prog _ _ (_ :: _) _ _; refine wpList_build_tree rfl _ rfl _ rfl ?_) | (at_builtin; refine Hid.out ?_))
      refine Lib.hid ?_
      have hA := (Below.refl wo.heap.size wo).alloc (Nat.le_refl _) (.cells (treeC ⟨1, noneB, aR, rs.length, cR⟩) 108)
      have hps1 := hps.below hA
      refine wpList_append_tree rfl _ _ rfl (w.heap.size + 3) (.slice aT ts.length cT) ts rfl hps1.ot wo.heap.size 1 ⟨1, noneB, aR, rs.length, cR⟩ rfl (TreeBlk.new wo _) (by omega) (by simp; omega) ?_
      intro a' c' w2 ho hg hm
      have hps2 := hps1.addT ho hg hm
      have ct2 : w2.cell? ⟨w.heap.size + 1, 257, none⟩ = some (.slice aT ts.length cT) := (hps1.t.kept hg (hps1.tne _ (by omega))).parts
      have cf2 : w2.frozen? ⟨w.heap.size + 1, 257, none⟩ = false := (hps1.t.kept hg (hps1.tne _ (by omega))).frozen 257
      have tr2 := (((tr.below hA).kept hg (hps1.tne _ (by omega))).of (show (w2.setCell ⟨w.heap.size + 1, 257, none⟩ (.slice a' (ts.length + 1) c')).heap[w.heap.size + 1 + 1]? = w2.heap[w.heap.size + 1 + 1]? from (grownBy_setCell w2 (w.heap.size + 1) 257 _).block _ (by have := hg.size; simp at this; omega) (by simp)))
      clear ct hA ho hg hm
      have ks := tr2.storeCells (noT 1)
      have tr3 := tr2.row (noT 1)
      have hps3 := hps2.chg (chg_setRow (w2.setCell ⟨w.heap.size + 1, 257, none⟩ (.slice a' (ts.length + 1) c')) (w.heap.size + 1 + 1) (treeC (noT 1))) (fun b e => .inl e)
      clear hps hps1 hps2 tr tr2
      generalize World.setRow _ _ _ = W3 at *
      go_wp2
      go_roundw
      case rel => exact ⟨_, a', c', _, _, none, 0, [], [], d + 1, rfl, by simp; omega, HB, hps3, tr3⟩
      case measure => simp [strSize]; omega
    have q124 : ((s1[0].toNat : Int) == 124) = false := beq_no (n := 124) (by decide) h124
    have hrow : rowEnd s1.data.toList = false := by
      rw [HC.out]
      simp [rowEnd, h124, h41]
    have hat := eatom_ref s1 wo (by omega) hp2 (IH _ (by rw [ByteArray.size_extract]; omega)) (fun l A l' h => pLoop_len h)
    cases hq : pAtom (pL noL epsL) s1.data.toList with
    | none =>
      have HA := Lib.hid (hat.1 hq)
      have HF : Hid (pL noL epsL s.data.toList = none) := Lib.hid (by
        rw [← HI.out]
        exact pL_part_no hrow (by unfold pP pPart; rw [hq]))
      clear hat hq hrow HI HC h124 h41 IH
      go_wp2_with (go_at_call 97; refine HA.out.mono ?_; rintro e w1 ⟨⟨t, rfl⟩, q1⟩; refine Hid.out ?_)
      refine Lib.hid ?_
      have hb2 : Below wo.heap.size wo (w1.alloc (.cells (treeC t) 108)) := q1.alloc q1.size _
      have hps2 := hps.below hb2
      have ks0 := store_last w1 w1.heap.size rfl (noT 0) t
      have t2 := hps2.t
      have ks := hps2.z.storeCells ⟨2, noneB, aT, ts.length, cT⟩
      have t4 := hps2.z.row ⟨2, noneB, aT, ts.length, cT⟩
      have hb4 := below_setRow hps2.bl w.heap.size (Nat.le_refl _) (treeC ⟨2, noneB, aT, ts.length, cT⟩)
      clear hps hps2 tr ct hb2
      go_wp2_with (with_reducible change wpList Tryd.prog _ _ (_ :: _) _ _; refine wpList_load_tree rfl _ rfl _ rfl t2 ?_)
      exact bodyPost_ret (results_tree3 rfl _ _ _ rfl t4) rfl ⟨.inl ⟨HF.out, _, rfl⟩, hb4⟩
    | some q =>
      obtain ⟨A, l2⟩ := q
      have hl2 := pAtom_len (fun l A l' h => pLoop_len h) hq
      obtain ⟨s2, rfl⟩ : ∃ s2 : ByteArray, s2.data.toList = l2 := ⟨⟨l2.toArray⟩, rfl⟩
      have hs2 : s2.size < s1.size := by simpa using hl2
      have HA := Lib.hid (hat.2 A s2 hq)
      have HF : Hid (pL (Ls.foldl altL noL) (Ms.foldl catL epsL) s1.data.toList = pL (Ls.foldl altL noL) (catL (Ms.foldl catL epsL) (pSuf A s2.data.toList).1) (pSuf A s2.data.toList).2) := Lib.hid (pL_part hrow (by unfold pP pPart; rw [hq]))
      rw [HI.out] at HF
      clear hat hq hrow HI HC h124 h41 IH hl2
      go_wp2_with (go_at_call 97; refine HA.out.mono ?_; rintro e w1 ⟨⟨t, rfl, dA, hdA⟩, q1⟩; refine Hid.out ?_)
      refine Lib.hid ?_
      have hb2 : Below wo.heap.size wo (w1.alloc (.cells (treeC t) 108)) := q1.alloc q1.size _
      have hps2 := hps.apart hb2 w1.heap.size q1.size
      have tr2 := tr.below hb2
      have ta2 := TreeBlk.new w1 t
      have hws1 := q1.size
      have hdB : Den dA (w1.alloc (.cells (treeC t) 108)) (Frz (w.heap.size + 3) (w1.alloc (.cells (treeC t) 108)) (· = w1.heap.size) (.slice aT ts.length cT) (.slice aR rs.length cR)) t A := by
        refine Den.keep (fun b hb => Below.heap_alloc w1 _ b hb.2) (fun b hb => ⟨by omega, by simp; omega, (fun e => by omega), (fun e => ?_), (fun e => ?_)⟩) _ _ _ hdA
        · have := (hps.ot.lt b e).2; omega
        · have := (hps.ow.lt b e).2; omega
      have hwz : w1.heap.size < (w1.alloc (.cells (treeC t) 108)).heap.size := by simp
      have ks0 := store_last w1 w1.heap.size rfl (noT 0) t
      clear hps tr ct hdA HA
      go_wp2_with fail
      generalize w1.alloc (.cells (treeC t) 108) = W2 at *
      go_loopw [0] (fun sv wr => ∃ (s3 : ByteArray) (a : TV) (L : Lang) (dL : Nat), sv = .string s3 ∧ s3.size ≤ s2.size ∧ Hid (pSuf L s3.data.toList = pSuf A s2.data.toList) ∧ TreeBlk wr w1.heap.size a ∧ Den dL wr (Frz (w.heap.size + 3) wr (· = w1.heap.size) (.slice aT ts.length cT) (.slice aR rs.length cR)) a L ∧ PS w wr (· = w1.heap.size) aT cT ts Ls aR cR rs Ms d ∧ TreeBlk wr (w.heap.size + 1 + 1) ⟨1, noneB, aR, rs.length, cR⟩) (fun sv _ => strSize sv)
      case atStart => exact ⟨s2, t, A, dA, rfl, Nat.le_refl _, Lib.hid rfl, ta2, hdB, hps2, tr2⟩
      case round =>
        clear ta2 hdB hps2 tr2 ks0
        obtain ⟨s3, a, L, dL, rfl, hs3, HS, ta, hda, hp3, tr3⟩ := hrel
        obtain ⟨wz, rfl⟩ : ∃ x, x = wr := ⟨_, rfl⟩
        have cr := tr3.parts
        have hta := ta.lt
        have hne1 : w.heap.size + 3 ≤ w1.heap.size := (hp3.ex _ rfl).1
        have hzz := hp3.sz
        by_cases z0 : s3.size = 0
        · have z1 : ¬ (0 : Int) < (s3.size : Int) := by omega
          have HP : Hid (plainHead s3.data.toList) := Lib.hid (by rw [bytes_nil z0]; exact ⟨by simp, by simp, by simp⟩)
          clear z0
          have HG : Hid (pL (Ls.foldl altL noL) ((Ms ++ [L]).foldl catL epsL) s3.data.toList = pL noL epsL s.data.toList) := Lib.hid (by
            rw [foldl_snoc, HF.out, ← HS.out, pSuf_stop L _ HP.out])
          clear HP HS HF
          go_wp2_with (first | (with_reducible change wpList Tryd.prog _ _ (_ :: _) _ _; refine wpList_load_tree rfl _ rfl _ rfl ta ?_) | (with_reducible change wpList Tryd.prog _ _ (_ :: _) _ _; refine wpList_build_tree rfl _ rfl _ rfl ?_) | (at_builtin; refine Hid.out ?_))
          refine Lib.hid ?_
          have hA := (Below.refl wz.heap.size wz).alloc (Nat.le_refl _) (.cells (treeC a) 108)
          have hp4 := (hp3.le (Nat.le_max_left d dL)).below hA
          have hd4 : Den (max d dL) (wz.alloc (.cells (treeC a) 108)) (Frz (w.heap.size + 3) (wz.alloc (.cells (treeC a) 108)) (· = w1.heap.size) (.slice aT ts.length cT) (.slice aR rs.length cR)) a L :=
            Den.keep (fun b hb => Below.heap_alloc wz _ b hb.2.1) (fun b hb => ⟨hb.1, by have := hb.2.1; simp; omega, hb.2.2⟩) _ _ _ (hda.le (Nat.le_max_right d dL))
          refine wpList_append_tree rfl _ _ rfl (w.heap.size + 3) (.slice aR rs.length cR) rs rfl hp4.ow wz.heap.size 1 a rfl (TreeBlk.new wz _) (by omega) (by simp; omega) ?_
          intro a' c' w2 ho hg hm
          have hp5 := hp4.addR hd4 (fun b e => by subst e; simp; omega) ho hg hm
          have tr4 := (tr3.below hA).kept hg (hp4.rne _ (by omega))
          have cr2 : w2.cell? ⟨w.heap.size + 1 + 1, 257, none⟩ = some (.slice aR rs.length cR) := tr4.parts
          have cf2 : w2.frozen? ⟨w.heap.size + 1 + 1, 257, none⟩ = false := tr4.frozen 257
          have tr5 : TreeBlk (w2.setCell ⟨w.heap.size + 1 + 1, 257, none⟩ (.slice a' (rs.length + 1) c')) (w.heap.size + 1 + 1) ⟨1, noneB, a', (rs ++ [a]).length, c'⟩ := by
            rw [List.length_append, List.length_singleton]
            exact tr4.setSl a' (rs.length + 1) c'
          clear cr hA ho hg hm hp3 hp4 tr3 tr4 hd4 hda ta
          go_wp2
          go_roundw
          case rel => exact ⟨s3, aT, cT, ts, Ls, a', c', _, _, _, rfl, by simp; omega, HG, hp5.drop, tr5⟩
          case measure => simp [strSize]; omega
        have z1 : (0 : Int) < (s3.size : Int) := by omega
        have z2 : 0 < s3.size := by omega
        have z3 : (1 : Int) ≤ (s3.size : Int) := by omega
        have HD := Lib.hid (bytes_cons s3 z2)
        have hx : (s3.extract 1 s3.size).size + 1 = s3.size := by rw [ByteArray.size_extract]; omega
        by_cases h42 : s3[0] = 42
        · have q42 : ((s3[0].toNat : Int) == 42) = true := beq_yes (n := 42) (by decide) h42
          have q43 : ((s3[0].toNat : Int) == 43) = false := beq_no (n := 43) (by decide) (by rw [h42]; decide)
          have q63 : ((s3[0].toNat : Int) == 63) = false := beq_no (n := 63) (by decide) (by rw [h42]; decide)
          have HT : Hid (pSuf (optL (PlusL L)) (s3.extract 1 s3.size).data.toList = pSuf A s2.data.toList) := Lib.hid (by rw [← HS.out, HD.out, h42]; rfl)
          clear h42 HD HS
          have kbk : (treeC (noT 0)).setIfInBounds 0 (.int .i64 3) = treeC (noT 3) := build_k 3
          have ksl : (treeC (noT 3)).setIfInBounds 257 (.slice (some ⟨wz.heap.size, 0, none⟩) 1 1) = treeC ⟨3, noneB, some ⟨wz.heap.size, 0, none⟩, 1, 1⟩ := treeC_setSl _ _ _ _
          have ta4 := ta.alloc (.cells (treeC a) 108)
          have ks := ta4.storeCells ⟨3, noneB, some ⟨wz.heap.size, 0, none⟩, 1, 1⟩
          have ta5 := ta4.row ⟨3, noneB, some ⟨wz.heap.size, 0, none⟩, 1, 1⟩
          have hA := (Below.refl wz.heap.size wz).alloc (Nat.le_refl _) (.cells (treeC a) 108)
          have hp5 := (hp3.below hA).chg (chg_setRow (wz.alloc (.cells (treeC a) 108)) w1.heap.size (treeC ⟨3, noneB, some ⟨wz.heap.size, 0, none⟩, 1, 1⟩)) (fun b e => .inr e)
          have tr5 := (tr3.below hA).of (setRow_other (wz.alloc (.cells (treeC a) 108)) w1.heap.size (w.heap.size + 1 + 1) (treeC ⟨3, noneB, some ⟨wz.heap.size, 0, none⟩, 1, 1⟩) (by omega))
          have hsz5 : ((wz.alloc (.cells (treeC a) 108)).setRow w1.heap.size (treeC ⟨3, noneB, some ⟨wz.heap.size, 0, none⟩, 1, 1⟩)).heap.size = wz.heap.size + 1 := by rw [size_setRow]; simp
          have hd5 : Den (dL + 1) ((wz.alloc (.cells (treeC a) 108)).setRow w1.heap.size (treeC ⟨3, noneB, some ⟨wz.heap.size, 0, none⟩, 1, 1⟩)) (Frz (w.heap.size + 3) ((wz.alloc (.cells (treeC a) 108)).setRow w1.heap.size (treeC ⟨3, noneB, some ⟨wz.heap.size, 0, none⟩, 1, 1⟩)) (· = w1.heap.size) (.slice aT ts.length cT) (.slice aR rs.length cR)) ⟨3, noneB, some ⟨wz.heap.size, 0, none⟩, 1, 1⟩ (optL (PlusL L)) := by
            refine den_sign hda (fun b hb => ?_) (fun b hb => ⟨hb.1, by rw [hsz5]; have := hb.2.1; omega, hb.2.2⟩) ⟨by omega, by rw [hsz5]; omega, (fun e => by omega), (fun e => ?_), (fun e => ?_)⟩ ?_ (.inl ⟨rfl, fun _ => Iff.rfl⟩)
            · rw [setRow_other _ _ _ _ (show b ≠ w1.heap.size from hb.2.2.1)]
              exact Below.heap_alloc wz _ b hb.2.1
            · have := (hp3.ot.lt _ e).2; omega
            · have := (hp3.ow.lt _ e).2; omega
            · exact (TreeBlk.new wz a).of (setRow_other _ _ _ _ (by omega))
          clear hp3 tr3 hda cr hA ta4
          go_wp2_with (first | (with_reducible change wpList Tryd.prog _ _ (_ :: _) _ _; refine wpList_load_tree rfl _ rfl _ rfl ta ?_) | (with_reducible change wpList Tryd.prog _ _ (_ :: _) _ _; refine wpList_build_tree rfl _ rfl _ rfl ?_))
          generalize World.setRow _ _ _ = W5 at *
          try go_wp2
          go_roundw
          case rel => exact ⟨_, _, _, _, rfl, by omega, HT, ta5, hd5, hp5, tr5⟩
          case measure => simp [strSize]; omega
        have q42 : ((s3[0].toNat : Int) == 42) = false := beq_no (n := 42) (by decide) h42
        by_cases h43 : s3[0] = 43
        · have q43 : ((s3[0].toNat : Int) == 43) = true := beq_yes (n := 43) (by decide) h43
          have q63 : ((s3[0].toNat : Int) == 63) = false := beq_no (n := 63) (by decide) (by rw [h43]; decide)
          have HT : Hid (pSuf (PlusL L) (s3.extract 1 s3.size).data.toList = pSuf A s2.data.toList) := Lib.hid (by rw [← HS.out, HD.out, h43]; rfl)
          clear h42 h43 HD HS
          have kbk : (treeC (noT 0)).setIfInBounds 0 (.int .i64 4) = treeC (noT 4) := build_k 4
          have ksl : (treeC (noT 4)).setIfInBounds 257 (.slice (some ⟨wz.heap.size, 0, none⟩) 1 1) = treeC ⟨4, noneB, some ⟨wz.heap.size, 0, none⟩, 1, 1⟩ := treeC_setSl _ _ _ _
          have ta4 := ta.alloc (.cells (treeC a) 108)
          have ks := ta4.storeCells ⟨4, noneB, some ⟨wz.heap.size, 0, none⟩, 1, 1⟩
          have ta5 := ta4.row ⟨4, noneB, some ⟨wz.heap.size, 0, none⟩, 1, 1⟩
          have hA := (Below.refl wz.heap.size wz).alloc (Nat.le_refl _) (.cells (treeC a) 108)
          have hp5 := (hp3.below hA).chg (chg_setRow (wz.alloc (.cells (treeC a) 108)) w1.heap.size (treeC ⟨4, noneB, some ⟨wz.heap.size, 0, none⟩, 1, 1⟩)) (fun b e => .inr e)
          have tr5 := (tr3.below hA).of (setRow_other (wz.alloc (.cells (treeC a) 108)) w1.heap.size (w.heap.size + 1 + 1) (treeC ⟨4, noneB, some ⟨wz.heap.size, 0, none⟩, 1, 1⟩) (by omega))
          have hsz5 : ((wz.alloc (.cells (treeC a) 108)).setRow w1.heap.size (treeC ⟨4, noneB, some ⟨wz.heap.size, 0, none⟩, 1, 1⟩)).heap.size = wz.heap.size + 1 := by rw [size_setRow]; simp
          have hd5 : Den (dL + 1) ((wz.alloc (.cells (treeC a) 108)).setRow w1.heap.size (treeC ⟨4, noneB, some ⟨wz.heap.size, 0, none⟩, 1, 1⟩)) (Frz (w.heap.size + 3) ((wz.alloc (.cells (treeC a) 108)).setRow w1.heap.size (treeC ⟨4, noneB, some ⟨wz.heap.size, 0, none⟩, 1, 1⟩)) (· = w1.heap.size) (.slice aT ts.length cT) (.slice aR rs.length cR)) ⟨4, noneB, some ⟨wz.heap.size, 0, none⟩, 1, 1⟩ (PlusL L) := by
            refine den_sign hda (fun b hb => ?_) (fun b hb => ⟨hb.1, by rw [hsz5]; have := hb.2.1; omega, hb.2.2⟩) ⟨by omega, by rw [hsz5]; omega, (fun e => by omega), (fun e => ?_), (fun e => ?_)⟩ ?_ (.inr (.inl ⟨rfl, fun _ => Iff.rfl⟩))
            · rw [setRow_other _ _ _ _ (show b ≠ w1.heap.size from hb.2.2.1)]
              exact Below.heap_alloc wz _ b hb.2.1
            · have := (hp3.ot.lt _ e).2; omega
            · have := (hp3.ow.lt _ e).2; omega
            · exact (TreeBlk.new wz a).of (setRow_other _ _ _ _ (by omega))
          clear hp3 tr3 hda cr hA ta4
          go_wp2_with (first | (with_reducible change wpList Tryd.prog _ _ (_ :: _) _ _; refine wpList_load_tree rfl _ rfl _ rfl ta ?_) | (with_reducible change wpList Tryd.prog _ _ (_ :: _) _ _; refine wpList_build_tree rfl _ rfl _ rfl ?_))
          generalize World.setRow _ _ _ = W5 at *
          try go_wp2
          go_roundw
          case rel => exact ⟨_, _, _, _, rfl, by omega, HT, ta5, hd5, hp5, tr5⟩
          case measure => simp [strSize]; omega
        have q43 : ((s3[0].toNat : Int) == 43) = false := beq_no (n := 43) (by decide) h43
        by_cases h63 : s3[0] = 63
        · have q63 : ((s3[0].toNat : Int) == 63) = true := beq_yes (n := 63) (by decide) h63
          have HT : Hid (pSuf (optL L) (s3.extract 1 s3.size).data.toList = pSuf A s2.data.toList) := Lib.hid (by rw [← HS.out, HD.out, h63]; rfl)
          clear h42 h43 h63 HD HS
          have kbk : (treeC (noT 0)).setIfInBounds 0 (.int .i64 5) = treeC (noT 5) := build_k 5
          have ksl : (treeC (noT 5)).setIfInBounds 257 (.slice (some ⟨wz.heap.size, 0, none⟩) 1 1) = treeC ⟨5, noneB, some ⟨wz.heap.size, 0, none⟩, 1, 1⟩ := treeC_setSl _ _ _ _
          have ta4 := ta.alloc (.cells (treeC a) 108)
          have ks := ta4.storeCells ⟨5, noneB, some ⟨wz.heap.size, 0, none⟩, 1, 1⟩
          have ta5 := ta4.row ⟨5, noneB, some ⟨wz.heap.size, 0, none⟩, 1, 1⟩
          have hA := (Below.refl wz.heap.size wz).alloc (Nat.le_refl _) (.cells (treeC a) 108)
          have hp5 := (hp3.below hA).chg (chg_setRow (wz.alloc (.cells (treeC a) 108)) w1.heap.size (treeC ⟨5, noneB, some ⟨wz.heap.size, 0, none⟩, 1, 1⟩)) (fun b e => .inr e)
          have tr5 := (tr3.below hA).of (setRow_other (wz.alloc (.cells (treeC a) 108)) w1.heap.size (w.heap.size + 1 + 1) (treeC ⟨5, noneB, some ⟨wz.heap.size, 0, none⟩, 1, 1⟩) (by omega))
          have hsz5 : ((wz.alloc (.cells (treeC a) 108)).setRow w1.heap.size (treeC ⟨5, noneB, some ⟨wz.heap.size, 0, none⟩, 1, 1⟩)).heap.size = wz.heap.size + 1 := by rw [size_setRow]; simp
          have hd5 : Den (dL + 1) ((wz.alloc (.cells (treeC a) 108)).setRow w1.heap.size (treeC ⟨5, noneB, some ⟨wz.heap.size, 0, none⟩, 1, 1⟩)) (Frz (w.heap.size + 3) ((wz.alloc (.cells (treeC a) 108)).setRow w1.heap.size (treeC ⟨5, noneB, some ⟨wz.heap.size, 0, none⟩, 1, 1⟩)) (· = w1.heap.size) (.slice aT ts.length cT) (.slice aR rs.length cR)) ⟨5, noneB, some ⟨wz.heap.size, 0, none⟩, 1, 1⟩ (optL L) := by
            refine den_sign hda (fun b hb => ?_) (fun b hb => ⟨hb.1, by rw [hsz5]; have := hb.2.1; omega, hb.2.2⟩) ⟨by omega, by rw [hsz5]; omega, (fun e => by omega), (fun e => ?_), (fun e => ?_)⟩ ?_ (.inr (.inr ⟨rfl, fun _ => Iff.rfl⟩))
            · rw [setRow_other _ _ _ _ (show b ≠ w1.heap.size from hb.2.2.1)]
              exact Below.heap_alloc wz _ b hb.2.1
            · have := (hp3.ot.lt _ e).2; omega
            · have := (hp3.ow.lt _ e).2; omega
            · exact (TreeBlk.new wz a).of (setRow_other _ _ _ _ (by omega))
          clear hp3 tr3 hda cr hA ta4
          go_wp2_with (first | (with_reducible change wpList Tryd.prog _ _ (_ :: _) _ _; refine wpList_load_tree rfl _ rfl _ rfl ta ?_) | (with_reducible change wpList Tryd.prog _ _ (_ :: _) _ _; refine wpList_build_tree rfl _ rfl _ rfl ?_))
          generalize World.setRow _ _ _ = W5 at *
          try go_wp2
          go_roundw
          case rel => exact ⟨_, _, _, _, rfl, by omega, HT, ta5, hd5, hp5, tr5⟩
          case measure => simp [strSize]; omega
        have q63 : ((s3[0].toNat : Int) == 63) = false := beq_no (n := 63) (by decide) h63
        have HP : Hid (plainHead s3.data.toList) := Lib.hid (by rw [HD.out]; exact ⟨by simpa using h42, by simpa using h43, by simpa using h63⟩)
        clear h42 h43 h63 HD
        have HG : Hid (pL (Ls.foldl altL noL) ((Ms ++ [L]).foldl catL epsL) s3.data.toList = pL noL epsL s.data.toList) := Lib.hid (by
          rw [foldl_snoc, HF.out, ← HS.out, pSuf_stop L _ HP.out])
        clear HP HS HF
        go_wp2_with (first | (with_reducible change wpList Tryd.prog _ _ (_ :: _) _ _; refine wpList_load_tree rfl _ rfl _ rfl ta ?_) | (with_reducible change wpList Tryd.prog _ _ (_ :: _) _ _; refine wpList_build_tree rfl _ rfl _ rfl ?_) | (at_builtin; refine Hid.out ?_))
        refine Lib.hid ?_
        have hA := (Below.refl wz.heap.size wz).alloc (Nat.le_refl _) (.cells (treeC a) 108)
        have hp4 := (hp3.le (Nat.le_max_left d dL)).below hA
        have hd4 : Den (max d dL) (wz.alloc (.cells (treeC a) 108)) (Frz (w.heap.size + 3) (wz.alloc (.cells (treeC a) 108)) (· = w1.heap.size) (.slice aT ts.length cT) (.slice aR rs.length cR)) a L :=
          Den.keep (fun b hb => Below.heap_alloc wz _ b hb.2.1) (fun b hb => ⟨hb.1, by have := hb.2.1; simp; omega, hb.2.2⟩) _ _ _ (hda.le (Nat.le_max_right d dL))
        refine wpList_append_tree rfl _ _ rfl (w.heap.size + 3) (.slice aR rs.length cR) rs rfl hp4.ow wz.heap.size 1 a rfl (TreeBlk.new wz _) (by omega) (by simp; omega) ?_
        intro a' c' w2 ho hg hm
        have hp5 := hp4.addR hd4 (fun b e => by subst e; simp; omega) ho hg hm
        have tr4 := (tr3.below hA).kept hg (hp4.rne _ (by omega))
        have cr2 : w2.cell? ⟨w.heap.size + 1 + 1, 257, none⟩ = some (.slice aR rs.length cR) := tr4.parts
        have cf2 : w2.frozen? ⟨w.heap.size + 1 + 1, 257, none⟩ = false := tr4.frozen 257
        have tr5 : TreeBlk (w2.setCell ⟨w.heap.size + 1 + 1, 257, none⟩ (.slice a' (rs.length + 1) c')) (w.heap.size + 1 + 1) ⟨1, noneB, a', (rs ++ [a]).length, c'⟩ := by
          rw [List.length_append, List.length_singleton]
          exact tr4.setSl a' (rs.length + 1) c'
        clear cr hA ho hg hm hp3 hp4 tr3 tr4 hd4 hda ta
        go_wp2
        go_roundw
        case rel => exact ⟨s3, aT, cT, ts, Ls, a', c', _, _, _, rfl, by simp; omega, HG, hp5.drop, tr5⟩
        case measure => simp [strSize]; omega

end Go.Proofs.YtbkejafjlapmnaaDoor
