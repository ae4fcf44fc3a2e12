/-
  slices.Collect of members, and of nodes; List and There of package member.
-/
import Derived.Test.YtnoconampcemoaaB7
import Derived.OwnWalkIn
namespace Go.Proofs.Ytnoconampcemoaa
open Go Go.RowKit Go.Shelf

theorem ownsRow_ab {n0 : Nat} {A C : World} {B : Nat} {e : TypeId} {s : Nat} {v : Value} {k : Nat} {xs : List Value} (h : A.ownsRow B e s v k xs) (g : AbB n0 A C) : C.ownsRow B e s v k xs := by
  refine ⟨h.1, ?_⟩
  rcases h.2 with h1 | ⟨g1, cap, cur, h1, h2, h3, h4⟩
  · exact .inl h1
  · exact .inr ⟨g1, cap, cur, h1, h2, g.cells h3, h4⟩
def cellsU (L : List Int) : List Value := L.map (fun x => .int .u16 x)
theorem Boxed.setB {W : World} {B : Nat} {t : TypeId} {v : Value} (h : Boxed W B t v) (u : Value) : Boxed (W.setCell ⟨B, 0, none⟩ u) B t u := by
  unfold Boxed at h ⊢
  simp [World.setCell, Array.getElem?_modify, h]
/-- Nodes in a row of the call's own. -/
def OwnU (w : World) (B : Nat) (v : Value) (L : List Int) : Prop := w.ownsRow B 22 1 v L.length (cellsU L)
def NodesAt (w : World) (a : Option Addr) (l : List Int) : Prop := 0 < l.length → ∃ b o, a = some ⟨b, o, none⟩ ∧ b < w.heap.size ∧ ∀ i (hi : i < l.length), w.cell? ⟨b, o + i, none⟩ = some (.int .u16 l[i])
theorem infoU : ∃ i, Try.prog.info? 22 = some i ∧ i.zero = some (.int .u16 0) ∧ i.size = 1 ∧ i.bytes = 2 := by
  have h : (Try.prog.info? 22).map (fun i => (i.zero, i.size, i.bytes)) = some (some (.int .u16 0), 1, 2) := by kernel_rfl
  cases hq : Try.prog.info? 22 with
  | none => rw [hq] at h; cases h
  | some i => rw [hq] at h; exact ⟨i, rfl, by simpa using h⟩
theorem OwnU.nil (w : World) (B : Nat) : OwnU w B (.slice none 0 0) [] := World.ownsRow_nil _ _ _ _
theorem OwnU.push {w : World} {B : Nat} {v : Value} {L : List Int} {r : Int} (h : w.ownsRow B 22 1 v (L.length + 1) (cellsU L ++ [.int .u16 r])) : OwnU w B v (L ++ [r]) := by
  unfold OwnU
  rw [List.length_append]
  simpa [cellsU] using h
theorem OwnU.base {w : World} {B B' : Nat} {v : Value} {L : List Int} (h : OwnU w B v L) (hb : B' ≤ B) : OwnU w B' v L := by
  refine ⟨h.1, ?_⟩
  rcases h.2 with h1 | ⟨g1, cap, cur, h1, h2, h3, h4⟩
  · exact .inl h1
  · exact .inr ⟨g1, cap, cur, h1, Nat.le_trans hb h2, h3, h4⟩
theorem OwnU.form {w : World} {B : Nat} {v : Value} {L : List Int} (h : OwnU w B v L) : ∃ a c, v = .slice a L.length c ∧ (∀ q, a = some q → B ≤ q.block ∧ q.block < w.heap.size) ∧ NodesAt w a L := by
  rcases h.2 with ⟨rfl, h0⟩ | ⟨g, cap, cur, rfl, hg0, hg1, hcap, hmax, hcs, htk⟩
  · exact ⟨none, 0, by rw [h0], (fun q e => by cases e), fun hn => by omega⟩
  · refine ⟨_, _, rfl, (fun q e => by obtain rfl := Option.some.inj e; exact ⟨hg0, ltE hg1⟩), fun hn => ⟨g, 0, rfl, ltE hg1, fun i hi => ?_⟩⟩
    rw [Nat.zero_add]
    have := World.ownsRow.cellAt h i (by omega)
    rw [this]
    simp [cellsU, hi]
theorem grown_kpr {n0 n1 : Nat} {A B : World} {r : Option Nat} (g : A.grownBy B r) (hr : ∀ j, r = some j → j < n0 ∨ n1 ≤ j) : KpR n0 n1 A B :=
  ⟨g.size, fun k h1 h2 h3 => g.block k h3 (fun e => by have := hr k e.symm; omega)⟩

attribute [local go_sem] Oper.semAt_some


set_option maxRecDepth 100000 in
set_option maxHeartbeats 8000000 in
theorem apSeqM_any (gf : Nat) (bn lb : Array Value) (c : Nat) (xs : List Mem) (hl : xs.length ≤ 100000) (w : World) (eg : ∀ args w, (callFunc gf args).run Try.prog w = .ok (.enter gf args) w)
    (hseq : ∀ V, Below w.heap.size w V → ∀ n, SeqB Fence.wide n Try.prog gf bn lb encB c xs V) :
    Calls Try.prog 59 #[.slice none 0 0, .func (.func gf) bn lb] w fun e w' => ∃ a k, e = .returned (.slice a xs.length k) ∧ OwnMx w' w.heap.size (.slice a xs.length k) xs ∧ Below w.heap.size w w' := by
  refine (callsIn_wide (n := 3)).1 ?_
  refine callsIn_of_wp_marks Try.func59 rfl trivial ?_ rfl
  simp only [Try.ntmps59, List.size_toArray, List.length_cons, List.length_nil, Nat.reduceAdd, Nat.reduceSub, Array.replicate_succ, Array.replicate_zero, List.push_toArray, List.append_toArray, List.nil_append, List.cons_append]
  have bX := Boxed.new w 33 (.slice none 0 0)
  have hb0 := (Below.refl w.heap.size w).alloc (Nat.le_refl _) (.cells #[.slice none 0 0] 33)
  have hsz : (w.alloc (.cells #[.slice none 0 0] 33)).heap.size = w.heap.size + 1 := by simp
  have HZ := Lib.hid (And.intro bX (And.intro hsz hb0))
  have HSeq := Lib.hid hseq
  clear bX hsz hb0 hseq
  gi_wp2_with fail
  obtain ⟨bX, hsz, hb0⟩ := HZ.out
  generalize w.alloc (.cells #[.slice none 0 0] 33) = W0 at *
  clear HZ
  refine wpIn_rangeB rfl (fun h => by cases h) (gf := gf) (bn := bn) (lb := lb) rfl trivial eg
    (encs := encB) (c := c) (xs := xs) (fun V hV hVs => HSeq.out V (hb0.trans (hV.mono hb0.size)) _) (fun _ => rfl)
    (fun pre V => ∃ v, Boxed V w.heap.size 33 v ∧ OwnMx V (W0.heap.size + 2 + c) v pre ∧ Below w.heap.size w V ∧ pre.length ≤ 100000)
    (fun _ _ _ => False)
    (fun s A B hs hab => by obtain ⟨v, h1, h2, h3, h4⟩ := hs; exact ⟨v, hab.cells h1, ownsRow_ab h2 hab, hab.below h3 (Nat.le_refl _) (by omega), h4⟩)
    (fun _ _ _ _ hs _ => hs)
    ⟨_, bX, OwnMx.nil _ _, hb0, by simp⟩
    (fun m a' V => ∃ Bx, Mb V Bx m ∧ a' = { tmps := #[.slice none 0 0, .func (.func gf) bn lb, .pointer (some ⟨w.heap.size, 0, none⟩), undef, .slice none 0 0, .pointer (some ⟨Bx, 0, none⟩), .func (.func gf) bn lb, .agg #[.int .u16 m.n, .int .u8 m.s, .int .i64 m.i], undef, undef, undef, undef, undef], defers := [] })
    (fun m a' A B hs hab => by obtain ⟨Bx, h1, h2⟩ := hs; exact ⟨Bx, hab.cells h1, h2⟩)
    ?assign ?body ?done ?stop
  case assign =>
    intro l pre m V K hi hsz2 hK
    dsimp only [encB] at hK ⊢
    gi_wp2
    exact hK _ _ ((Below.refl _ V).alloc (Nat.le_refl _) _) ⟨V.heap.size, Mb.new V m, rfl⟩
  case body =>
    rintro l pre m a' V ⟨v, hbx, hown, hbe, hpl⟩ hsz2 hpre ⟨Bx, hm, rfl⟩
    have hpl2 : pre.length + 1 ≤ 100000 := by
      have := hpre.length_le
      simp at this
      omega
    obtain ⟨mn, ms, mi⟩ := m
    have c0 := hm.c0; have c1 := hm.c1; have c2 := hm.c2; dsimp only at c0 c1 c2
    have hb := hbx.cell
    obtain ⟨i0, hi, hi0, hi1, hi2⟩ := infoM
    have hown3 : V.ownsRow (W0.heap.size + 2 + c) 43 3 v pre.length (cellsMx pre) := hown
    have HBx := Lib.hid hbx
    have HBe := Lib.hid hbe
    have hvb : ∀ j, v.ownBlock = some j → W0.heap.size + 2 + c ≤ j := fun j hj => (World.ownsRow.lt hown3 j hj).1
    have HVb := Lib.hid hvb
    clear hm hbx hown hbe hvb hpre
    replace hsz := Lib.hid hsz
    gi_wp2_with (gi_at_builtin; refine wpListIn_append_own _ rfl _ _ 33 rfl (W0.heap.size + 2 + c) 43 i0 _ 3 16 Try.underlying33 hi hi0 hi1 hi2 rfl (by decide) _ _ _ rfl (World.ownsRow.alloc hown3 _) ⟨V.heap.size, 0, none⟩ 1 1 [.int .u16 mn, .int .u8 ms, .int .i64 mi] rfl rfl (World.news_of_block (cs := #[.int .u16 mn, .int .u8 ms, .int .i64 mi]) (newE _ _)) (by intro u' hu'; simp at hu'; rcases hu' with rfl | rfl | rfl <;> rfl) (by unfold maxLen; omega) (by omega) (by have := hsz.out; simp; omega) ?_)
    replace hsz := hsz.out
    intro v7 w7 hown7 hg7 _
    have hA7 : OwnMx w7 (W0.heap.size + 2 + c) v7 (pre ++ [(⟨mn, ms, mi⟩ : Mem)]) := OwnMx.push hown7
    have hlow := fun q (e : v7.ownBlock = some q) => (World.ownsRow.lt hA7 q e).1
    obtain ⟨a7, c7, rfl, -⟩ := hA7.form
    have hwV : w.heap.size < V.heap.size := by omega
    have hB7 : Boxed w7 w.heap.size 33 v := (hg7.block _ (by simp; omega) (fun e => by have := HVb.out _ e.symm; omega)).trans ((Below.heap_alloc V _ _ hwV).trans HBx.out)
    have hb7 := hB7.cell
    have hf7 := hB7.frozen
    have hc7 := Boxed.setB hB7 (.slice a7 (pre ++ [(⟨mn, ms, mi⟩ : Mem)]).length c7)
    have hA8 : OwnMx (w7.setCell ⟨w.heap.size, 0, none⟩ (.slice a7 (pre ++ [(⟨mn, ms, mi⟩ : Mem)]).length c7)) (W0.heap.size + 2 + c) (.slice a7 (pre ++ [(⟨mn, ms, mi⟩ : Mem)]).length c7) (pre ++ [(⟨mn, ms, mi⟩ : Mem)]) :=
      World.ownsRow.kept hA7 (grownBy_setCell w7 w.heap.size 0 _) (.inr (fun e => by have := hlow _ e; omega))
    have hK8 : KpR W0.heap.size (W0.heap.size + 2 + c) V (w7.setCell ⟨w.heap.size, 0, none⟩ (.slice a7 (pre ++ [(⟨mn, ms, mi⟩ : Mem)]).length c7)) :=
      (KpR.of_below ((Below.refl _ V).alloc (Nat.le_refl _) _)).trans ((grown_kpr hg7 (fun j e => .inr (HVb.out j e))).trans (grown_kpr (grownBy_setCell w7 w.heap.size 0 _) (fun j e => by cases e; exact .inl (by omega))))
    have hB8 : Below w.heap.size w (w7.setCell ⟨w.heap.size, 0, none⟩ (.slice a7 (pre ++ [(⟨mn, ms, mi⟩ : Mem)]).length c7)) :=
      ((HBe.out.alloc HBe.out.size _).grown hg7 (by simp; omega) (fun j e => by have := HVb.out j e; omega)).setCell (p := ⟨w.heap.size, 0, none⟩) (Nat.le_refl _) _
    have HF := Lib.hid (And.intro hK8 (And.intro hc7 (And.intro hA8 hB8)))
    have HPL := Lib.hid hpl2
    clear hK8 hc7 hA8 hB8 hA7 hown7 hg7 hown3 HBx HBe HVb hlow hi hi0 hi1 hi2 hB7 hsz
    generalize (pre ++ [(⟨mn, ms, mi⟩ : Mem)]).length = nL at *
    gi_wp2
    exact ⟨HF.out.1, _, HF.out.2.1, HF.out.2.2.1, HF.out.2.2.2, by have := HPL.out; simpa using this⟩
  case done =>
    rintro D V hD ⟨v, hbx, hown, hbe, hpl⟩ hK
    have hb := hbx.cell
    have HF := Lib.hid (And.intro (ownsRow_ab hown (AbB.putObj (n0 := W0.heap.size) (l := D) hD hK rfl (.deferred none))) ((AbB.putObj (n0 := W0.heap.size) (l := D) hD hK rfl (.deferred none)).below hbe (Nat.le_refl _) (by omega)))
    obtain ⟨aF, cF, rfl, -⟩ := (show OwnMx V _ v xs from hown).form
    clear hbx hown hbe
    gi_wp2
    refine ⟨by simp, .inl ⟨_, _, rfl, run_takeDeferred hK, ?_⟩⟩
    exact ⟨_, results_tmp rfl _ _ _, aF, cF, rfl, (show OwnMx _ (W0.heap.size + 2 + c) _ xs from HF.out.1).base (by omega), HF.out.2⟩
  case stop =>
    rintro D cd pre V hD h hK
    exact h.elim


set_option maxRecDepth 100000 in
set_option maxHeartbeats 8000000 in
theorem apSeqU_any (gf : Nat) (bn lb : Array Value) (c : Nat) (xs : List Int) (hl : xs.length ≤ 100000) (w : World) (eg : ∀ args w, (callFunc gf args).run Try.prog w = .ok (.enter gf args) w)
    (hseq : ∀ V, Below w.heap.size w V → ∀ n, SeqB Fence.wide n Try.prog gf bn lb encU c xs V) :
    Calls Try.prog 65 #[.slice none 0 0, .func (.func gf) bn lb] w fun e w' => ∃ a k, e = .returned (.slice a xs.length k) ∧ OwnU w' w.heap.size (.slice a xs.length k) xs ∧ Below w.heap.size w w' := by
  refine (callsIn_wide (n := 3)).1 ?_
  refine callsIn_of_wp_marks Try.func65 rfl trivial ?_ rfl
  simp only [Try.ntmps65, List.size_toArray, List.length_cons, List.length_nil, Nat.reduceAdd, Nat.reduceSub, Array.replicate_succ, Array.replicate_zero, List.push_toArray, List.append_toArray, List.nil_append, List.cons_append]
  have bX := Boxed.new w 115 (.slice none 0 0)
  have hb0 := (Below.refl w.heap.size w).alloc (Nat.le_refl _) (.cells #[.slice none 0 0] 115)
  have hsz : (w.alloc (.cells #[.slice none 0 0] 115)).heap.size = w.heap.size + 1 := by simp
  have HZ := Lib.hid (And.intro bX (And.intro hsz hb0))
  have HSeq := Lib.hid hseq
  clear bX hsz hb0 hseq
  gi_wp2_with fail
  obtain ⟨bX, hsz, hb0⟩ := HZ.out
  generalize w.alloc (.cells #[.slice none 0 0] 115) = W0 at *
  clear HZ
  refine wpIn_rangeB rfl (fun h => by cases h) (gf := gf) (bn := bn) (lb := lb) rfl trivial eg
    (encs := encU) (c := c) (xs := xs) (fun V hV hVs => HSeq.out V (hb0.trans (hV.mono hb0.size)) _) (fun _ => rfl)
    (fun pre V => ∃ v, Boxed V w.heap.size 115 v ∧ OwnU V (W0.heap.size + 2 + c) v pre ∧ Below w.heap.size w V ∧ pre.length ≤ 100000)
    (fun _ _ _ => False)
    (fun s A B hs hab => by obtain ⟨v, h1, h2, h3, h4⟩ := hs; exact ⟨v, hab.cells h1, ownsRow_ab h2 hab, hab.below h3 (Nat.le_refl _) (by omega), h4⟩)
    (fun _ _ _ _ hs _ => hs)
    ⟨_, bX, OwnU.nil _ _, hb0, by simp⟩
    (fun m a' V => a' = { tmps := #[.slice none 0 0, .func (.func gf) bn lb, .pointer (some ⟨w.heap.size, 0, none⟩), undef, .slice none 0 0, .int .u16 m, .func (.func gf) bn lb, .int .u16 m, undef, undef, undef, undef, undef], defers := [] })
    (fun m a' A B hs hab => hs)
    ?assign ?body ?done ?stop
  case assign =>
    intro l pre m V K hi hsz2 hK
    dsimp only [encU] at hK ⊢
    gi_wp2
    exact hK _ _ (Below.refl _ V) rfl
  case body =>
    rintro l pre m a' V ⟨v, hbx, hown, hbe, hpl⟩ hsz2 hpre rfl
    have hpl2 : pre.length + 1 ≤ 100000 := by
      have := hpre.length_le
      simp at this
      omega
    skip
    skip
    have hb := hbx.cell
    obtain ⟨i0, hi, hi0, hi1, hi2⟩ := infoU
    have hown3 : V.ownsRow (W0.heap.size + 2 + c) 22 1 v pre.length (cellsU pre) := hown
    have HBx := Lib.hid hbx
    have HBe := Lib.hid hbe
    have hvb : ∀ j, v.ownBlock = some j → W0.heap.size + 2 + c ≤ j := fun j hj => (World.ownsRow.lt hown3 j hj).1
    have HVb := Lib.hid hvb
    clear hbx hown hbe hvb hpre
    replace hsz := Lib.hid hsz
    gi_wp2_with (gi_at_builtin; refine wpListIn_append_own _ rfl _ _ 115 rfl (W0.heap.size + 2 + c) 22 i0 _ 1 2 Try.underlying115 hi hi0 hi1 hi2 rfl (by decide) _ _ _ rfl (World.ownsRow.alloc hown3 _) ⟨V.heap.size, 0, none⟩ 1 1 [.int .u16 m] rfl rfl (World.news_of_block (cs := #[.int .u16 m]) (newE _ _)) (by intro u' hu'; simp at hu'; rcases hu' with rfl | rfl | rfl <;> rfl) (by unfold maxLen; omega) (by omega) (by have := hsz.out; simp; omega) ?_)
    replace hsz := hsz.out
    intro v7 w7 hown7 hg7 _
    have hA7 : OwnU w7 (W0.heap.size + 2 + c) v7 (pre ++ [m]) := OwnU.push hown7
    have hlow := fun q (e : v7.ownBlock = some q) => (World.ownsRow.lt hA7 q e).1
    obtain ⟨a7, c7, rfl, -⟩ := hA7.form
    have hwV : w.heap.size < V.heap.size := by omega
    have hB7 : Boxed w7 w.heap.size 115 v := (hg7.block _ (by simp; omega) (fun e => by have := HVb.out _ e.symm; omega)).trans ((Below.heap_alloc V _ _ hwV).trans HBx.out)
    have hb7 := hB7.cell
    have hf7 := hB7.frozen
    have hc7 := Boxed.setB hB7 (.slice a7 (pre ++ [m]).length c7)
    have hA8 : OwnU (w7.setCell ⟨w.heap.size, 0, none⟩ (.slice a7 (pre ++ [m]).length c7)) (W0.heap.size + 2 + c) (.slice a7 (pre ++ [m]).length c7) (pre ++ [m]) :=
      World.ownsRow.kept hA7 (grownBy_setCell w7 w.heap.size 0 _) (.inr (fun e => by have := hlow _ e; omega))
    have hK8 : KpR W0.heap.size (W0.heap.size + 2 + c) V (w7.setCell ⟨w.heap.size, 0, none⟩ (.slice a7 (pre ++ [m]).length c7)) :=
      (KpR.of_below ((Below.refl _ V).alloc (Nat.le_refl _) _)).trans ((grown_kpr hg7 (fun j e => .inr (HVb.out j e))).trans (grown_kpr (grownBy_setCell w7 w.heap.size 0 _) (fun j e => by cases e; exact .inl (by omega))))
    have hB8 : Below w.heap.size w (w7.setCell ⟨w.heap.size, 0, none⟩ (.slice a7 (pre ++ [m]).length c7)) :=
      ((HBe.out.alloc HBe.out.size _).grown hg7 (by simp; omega) (fun j e => by have := HVb.out j e; omega)).setCell (p := ⟨w.heap.size, 0, none⟩) (Nat.le_refl _) _
    have HF := Lib.hid (And.intro hK8 (And.intro hc7 (And.intro hA8 hB8)))
    have HPL := Lib.hid hpl2
    clear hK8 hc7 hA8 hB8 hA7 hown7 hg7 hown3 HBx HBe HVb hlow hi hi0 hi1 hi2 hB7 hsz
    generalize (pre ++ [m]).length = nL at *
    gi_wp2
    exact ⟨HF.out.1, _, HF.out.2.1, HF.out.2.2.1, HF.out.2.2.2, by have := HPL.out; simpa using this⟩
  case done =>
    rintro D V hD ⟨v, hbx, hown, hbe, hpl⟩ hK
    have hb := hbx.cell
    have HF := Lib.hid (And.intro (ownsRow_ab hown (AbB.putObj (n0 := W0.heap.size) (l := D) hD hK rfl (.deferred none))) ((AbB.putObj (n0 := W0.heap.size) (l := D) hD hK rfl (.deferred none)).below hbe (Nat.le_refl _) (by omega)))
    obtain ⟨aF, cF, rfl, -⟩ := (show OwnU V _ v xs from hown).form
    clear hbx hown hbe
    gi_wp2
    refine ⟨by simp, .inl ⟨_, _, rfl, run_takeDeferred hK, ?_⟩⟩
    exact ⟨_, results_tmp rfl _ _ _, aF, cF, rfl, (show OwnU _ (W0.heap.size + 2 + c) _ xs from HF.out.1).base (by omega), HF.out.2⟩
  case stop =>
    rintro D cd pre V hD h hK
    exact h.elim


set_option maxRecDepth 20000 in
set_option maxHeartbeats 1000000 in
theorem collM_any (gf : Nat) (bn lb : Array Value) (c : Nat) (xs : List Mem) (hl : xs.length ≤ 100000) (w : World) (eg : ∀ args w, (callFunc gf args).run Try.prog w = .ok (.enter gf args) w)
    (hseq : ∀ V, Below w.heap.size w V → ∀ n, SeqB Fence.wide n Try.prog gf bn lb encB c xs V) :
    Calls Try.prog 50 #[.func (.func gf) bn lb] w fun e w' => ∃ a k, e = .returned (.slice a xs.length k) ∧ OwnMx w' w.heap.size (.slice a xs.length k) xs ∧ Below w.heap.size w w' := by
  have HA := Lib.hid (apSeqM_any gf bn lb c xs hl w eg hseq)
  clear hseq eg
  go_enter Try.func50, Try.ntmps50
  go_wp2_with (go_at_call 59; refine HA.out.mono ?_; rintro e w1 ⟨a, k, rfl, ho, hb⟩; replace ho := Lib.hid ho; replace hb := Lib.hid hb; refine Hid.out ?_)
  refine Lib.hid ?_

  go_wp2
  go_ret
  exact ⟨a, k, rfl, ho.out, hb.out⟩
def bListPost (xs : List Mem) (w : World) (e : Ending) (w' : World) : Prop := ∃ a n k, e = .returned (.slice a n k) ∧ n = xs.length ∧ OwnMx w' w.heap.size (.slice a n k) xs ∧ Below w.heap.size w w'
set_option maxRecDepth 20000 in
set_option maxHeartbeats 1000000 in
theorem bList_of (rv : Option Addr) (xs : List Mem) (hl : xs.length ≤ 100000) (w : World) (hseq : ∀ V, Below w.heap.size w V → ∀ n, SeqB Fence.wide n Try.prog 51 #[.pointer rv] #[] encB 0 xs V) :
    Calls Try.prog 32 #[.pointer rv] w (bListPost xs w) := by
  have eg : ∀ args w, (callFunc 51 args).run Try.prog w = .ok (.enter 51 args) w := enters_of Try.func51 (by kernel_rfl) rfl
  have HA := Lib.hid (collM_any 51 #[.pointer rv] #[] 0 xs hl w eg hseq)
  clear hseq eg
  go_enter Try.func32, Try.ntmps32
  go_wp2_with (go_at_call 50; refine HA.out.mono ?_; rintro e w1 ⟨a, k, rfl, ho, hb⟩; replace ho := Lib.hid ho; replace hb := Lib.hid hb; refine Hid.out ?_)
  refine Lib.hid ?_
  obtain ⟨nx, hnx⟩ : ∃ n, n = xs.length := ⟨_, rfl⟩
  rw [← hnx] at ho ⊢
  replace hnx := Lib.hid hnx
  go_wp2
  go_ret
  exact ⟨a, _, k, rfl, hnx.out, ho.out, hb.out⟩


set_option maxRecDepth 20000 in
set_option maxHeartbeats 1000000 in
theorem collU_any (gf : Nat) (bn lb : Array Value) (c : Nat) (xs : List Int) (hl : xs.length ≤ 100000) (w : World) (eg : ∀ args w, (callFunc gf args).run Try.prog w = .ok (.enter gf args) w)
    (hseq : ∀ V, Below w.heap.size w V → ∀ n, SeqB Fence.wide n Try.prog gf bn lb encU c xs V) :
    Calls Try.prog 63 #[.func (.func gf) bn lb] w fun e w' => ∃ a k, e = .returned (.slice a xs.length k) ∧ OwnU w' w.heap.size (.slice a xs.length k) xs ∧ Below w.heap.size w w' := by
  have HA := Lib.hid (apSeqU_any gf bn lb c xs hl w eg hseq)
  clear hseq eg
  go_enter Try.func63, Try.ntmps63
  go_wp2_with (go_at_call 65; refine HA.out.mono ?_; rintro e w1 ⟨a, k, rfl, ho, hb⟩; replace ho := Lib.hid ho; replace hb := Lib.hid hb; refine Hid.out ?_)
  refine Lib.hid ?_

  go_wp2
  go_ret
  exact ⟨a, k, rfl, ho.out, hb.out⟩
def bTherePost (xs : List Int) (w : World) (e : Ending) (w' : World) : Prop := ∃ a n k, e = .returned (.slice a n k) ∧ n = xs.length ∧ OwnU w' w.heap.size (.slice a n k) xs ∧ Below w.heap.size w w'
set_option maxRecDepth 20000 in
set_option maxHeartbeats 1000000 in
theorem bThere_of (rv : Option Addr) (xs : List Int) (hl : xs.length ≤ 100000) (w : World) (hseq : ∀ V, Below w.heap.size w V → ∀ n, SeqB Fence.wide n Try.prog 64 #[.pointer rv] #[] encU 3 xs V) :
    Calls Try.prog 61 #[.pointer rv] w (bTherePost xs w) := by
  have eg : ∀ args w, (callFunc 64 args).run Try.prog w = .ok (.enter 64 args) w := enters_of Try.func64 (by kernel_rfl) rfl
  have HA := Lib.hid (collU_any 64 #[.pointer rv] #[] 3 xs hl w eg hseq)
  clear hseq eg
  go_enter Try.func61, Try.ntmps61
  go_wp2_with (go_at_call 63; refine HA.out.mono ?_; rintro e w1 ⟨a, k, rfl, ho, hb⟩; replace ho := Lib.hid ho; replace hb := Lib.hid hb; refine Hid.out ?_)
  refine Lib.hid ?_
  obtain ⟨nx, hnx⟩ : ∃ n, n = xs.length := ⟨_, rfl⟩
  rw [← hnx] at ho ⊢
  replace hnx := Lib.hid hnx
  go_wp2
  go_ret
  exact ⟨a, _, k, rfl, hnx.out, ho.out, hb.out⟩


theorem thereL_len (l : List Mem) : (thereL l).length ≤ l.length := by
  unfold thereL
  rw [List.length_map]
  exact List.length_filter_le _ _
theorem bList_any (b : Nat) (T : Tb) (w : World) (hT : TabBlk w b T) : Calls Try.prog 32 #[.pointer (some ⟨b, 0, none⟩)] w (bListPost (memsB T) w) :=
  bList_of _ _ (by have := memsB_len T; omega) w fun V hV m => ball_in m b T V (hT.on hV)
theorem bList_nil (w : World) : Calls Try.prog 32 #[.pointer none] w (bListPost [] w) := bList_of _ _ (by simp) w fun V _ m => ball_nil m V
theorem bThere_any (b : Nat) (T : Tb) (w : World) (hT : TabBlk w b T) : Calls Try.prog 61 #[.pointer (some ⟨b, 0, none⟩)] w (bTherePost (thereB T) w) :=
  bThere_of _ _ (by have := thereL_len (memsB T); have := memsB_len T; unfold thereB; omega) w fun V hV m => bthere_in m _ _ V fun V2 hV2 m2 => ball_in m2 b T V2 (hT.on (hV.trans (hV2.mono hV.size)))
theorem bThere_nil (w : World) : Calls Try.prog 61 #[.pointer none] w (bTherePost [] w) := bThere_of _ _ (by simp) w fun V _ m => bthere_in m _ [] V fun V2 _ m2 => ball_nil m2 V2

end Go.Proofs.Ytnoconampcemoaa
