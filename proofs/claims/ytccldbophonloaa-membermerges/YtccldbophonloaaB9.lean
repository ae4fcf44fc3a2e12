/-
  What Position of package member tells.
-/
import Derived.Test.YtccldbophonloaaB8
namespace Go.Proofs.Ytccldbophonloaa
open Go Go.RowKit Go.Shelf

theorem posL_all {s : Nat} {l : List Int} (h : ∀ y ∈ l, y < (s : Int)) : posL s l = l.length := by
  unfold posL
  rw [List.countP_eq_length]
  intro y hy
  simpa using h y hy
theorem posL_cut {s : Nat} {l pre : List Int} {x : Int} (hp : pre ++ [x] <+: l) (hs : l.Pairwise (· < ·)) (h : ∀ y ∈ pre, y < (s : Int)) (hx : ¬ x < (s : Int)) : posL s l = pre.length := by
  obtain ⟨t, rfl⟩ := hp
  rw [List.append_assoc, List.pairwise_append] at hs
  unfold posL
  rw [List.append_assoc, List.countP_append]
  have h1 : pre.countP (fun n => decide (n < (s : Int))) = pre.length := posL_all h
  have h2 : ([x] ++ t).countP (fun n => decide (n < (s : Int))) = 0 := by
    rw [List.countP_eq_zero]
    intro y hy
    have hge : x ≤ y := by
      rcases List.mem_cons.1 (show y ∈ x :: t from hy) with rfl | hy
      · exact Int.le_refl _
      · have := hs.2.1
        rw [List.singleton_append, List.pairwise_cons] at this
        exact Int.le_of_lt (this.1 y hy)
    simp; omega
  rw [h1, h2]
  rfl

attribute [local go_sem] Oper.semAt_some

/-- What the loop of Position holds. -/
def PosI (w : World) (rv : Option Addr) (n : Nat) (V : World) : Prop := Boxed V w.heap.size 25 (.pointer rv) ∧ Boxed V (w.heap.size + 1) 3 (.int .i64 (n : Int)) ∧ Below w.heap.size w V
theorem PosI.ab {w A B : World} {rv : Option Addr} {n n0 : Nat} (h : PosI w rv n A) (g : AbB n0 A B) (hn : w.heap.size ≤ n0) : PosI w rv n B := ⟨g.cells h.1, g.cells h.2.1, g.below h.2.2 (Nat.le_refl _) hn⟩

set_option maxRecDepth 100000 in
set_option maxHeartbeats 8000000 in
theorem bPosition_of (rv : Option Addr) (s : Nat) (xs : List Int) (hl : xs.length ≤ 100000) (hsort : xs.Pairwise (· < ·)) (w : World) (hx : xs ≠ [] → ∃ b T, rv = some ⟨b, 0, none⟩ ∧ TabBlk w b T ∧ T.s = s)
    (hseq : ∀ V, Below w.heap.size w V → ∀ n, SeqB Fence.wide n Try.prog 38 #[.pointer rv] #[] encU 3 xs V) :
    Calls Try.prog 24 #[.pointer rv] w fun e w' => e = .returned (.int .i64 (posL s xs : Int)) ∧ Below w.heap.size w w' := by
  have eg : ∀ args w, (callFunc 38 args).run Try.prog w = .ok (.enter 38 args) w := enters_of Try.func38 (by kernel_rfl) rfl
  refine (callsIn_wide (n := 3)).1 ?_
  refine callsIn_of_wp_marks Try.func24 rfl trivial ?_ rfl
  simp only [Try.ntmps24, List.size_toArray, List.length_cons, List.length_nil, Nat.reduceAdd, Nat.reduceSub, Array.replicate_succ, Array.replicate_zero, List.push_toArray, List.append_toArray, List.nil_append, List.cons_append]
  have b1 := (Boxed.new w 25 (.pointer rv)).alloc (.cells #[.int .i64 0] 3)
  have b2 := Boxed.new (w.alloc (.cells #[.pointer rv] 25)) 3 (.int .i64 0)
  rw [World.size_alloc] at b2
  have hb0 := ((Below.refl w.heap.size w).alloc (Nat.le_refl _) (.cells #[.pointer rv] 25)).alloc (by simp) (.cells #[.int .i64 0] 3)
  have hsz : ((w.alloc (.cells #[.pointer rv] 25)).alloc (.cells #[.int .i64 0] 3)).heap.size = w.heap.size + 2 := by simp
  have HZ := Lib.hid (And.intro (show PosI w rv 0 _ from ⟨b1, b2, hb0⟩) hsz)
  have HX := Lib.hid hx
  have HSeq := Lib.hid hseq
  have HSo := Lib.hid hsort
  have HL := Lib.hid hl
  clear b1 b2 hb0 hsz hseq hx hsort hl
  gi_wp2_with fail
  obtain ⟨hpi, hsz⟩ := HZ.out
  generalize (w.alloc (.cells #[.pointer rv] 25)).alloc (.cells #[.int .i64 0] 3) = W0 at *
  clear HZ
  refine wpIn_rangeB rfl (fun h => by cases h) (gf := 38) (bn := #[.pointer rv]) (lb := #[]) rfl trivial eg
    (encs := encU) (c := 3) (xs := xs) (fun V hV hVs => HSeq.out V (hpi.2.2.trans (hV.mono hpi.2.2.size)) _) (fun _ => rfl)
    (fun pre V => PosI w rv pre.length V ∧ (∀ y ∈ pre, y < (s : Int)) ∧ pre.length ≤ 100000)
    (fun cd _ V => cd = .exit 0 ∧ PosI w rv (posL s xs) V)
    (fun s1 A B hs hab => ⟨hs.1.ab hab (by omega), hs.2⟩)
    (fun cd s1 A B hs hab => ⟨hs.1, hs.2.ab hab (by omega)⟩)
    ⟨hpi, (fun y hy => by cases hy), by simp⟩
    (fun x a' V => a' = { tmps := #[.pointer rv, .pointer (some ⟨w.heap.size, 0, none⟩), .int .i64 0, .pointer (some ⟨w.heap.size + 1, 0, none⟩), .int .u16 x, .pointer rv, .func (.func 38) #[.pointer rv] #[], .int .u16 x, undef, undef, undef, undef, undef, undef, undef, undef, undef], defers := [] })
    (fun x a' A B hs hab => hs)
    ?assign ?body ?done ?stop
  case assign =>
    intro l pre x V K hi hsz2 hK
    dsimp only [encU] at hK ⊢
    gi_wp2
    exact hK _ _ (Below.refl _ V) rfl
  case body =>
    rintro l pre x a' V ⟨hp, hlt, hpl⟩ hsz2 hpre rfl
    have hpl2 : pre.length + 1 ≤ 100000 := by
      have := hpre.length_le
      have := HL.out
      simp at *
      omega
    obtain ⟨b, T, rfl, hT, hTs⟩ := HX.out (by rintro rfl; have := hpre.length_le; simp at this)
    have hTV := hT.below hp.2.2 hT.lt
    have c0 := hp.1.cell
    have c1 := hp.2.1.cell
    have f1 := hp.2.1.frozen
    have c2 := hTV.self
    rw [hTs] at c2
    have HP := Lib.hid hp
    have HLt := Lib.hid hlt
    have HPr := Lib.hid hpre
    have hpl3 : IntKind.i64.wrap ((pre.length : Int) + 1) = ((pre.length + 1 : Nat) : Int) := by rw [IntKind.wrap_i64]; omega
    have HPl := Lib.hid hpl2
    replace hsz := Lib.hid hsz
    clear hp hlt hpre hT hTV hTs hpl hpl2
    by_cases hge : x < (s : Int)
    · have hge2 : ¬ (s : Int) ≤ x := by omega
      have hB2 := HP.out.2.1.set (.int .i64 ((pre.length + 1 : Nat) : Int))
      have hB1 := HP.out.1.other (B' := w.heap.size + 1) (by omega) (.int .i64 ((pre.length + 1 : Nat) : Int))
      have hBe := HP.out.2.2.setCell (p := ⟨w.heap.size + 1, 0, none⟩) (by simp) (.int .i64 ((pre.length + 1 : Nat) : Int))
      have hK8 : KpR W0.heap.size (W0.heap.size + 2 + 3) V (V.setCell ⟨w.heap.size + 1, 0, none⟩ (.int .i64 ((pre.length + 1 : Nat) : Int))) := grown_kpr (grownBy_setCell V (w.heap.size + 1) 0 _) (fun j e => by cases e; exact .inl (by have := hsz.out; omega))
      have HF := Lib.hid (And.intro hK8 (And.intro hB1 (And.intro hB2 hBe)))
      have hLx : (∀ y ∈ pre ++ [x], y < (s : Int)) := fun y hy => by
        rcases List.mem_append.1 hy with hy | hy
        · exact HLt.out y hy
        · obtain rfl := List.mem_singleton.1 hy; exact hge
      have HLx := Lib.hid hLx
      clear hK8 hB1 hB2 hBe hLx
      generalize hnn : pre.length + 1 = nn at *
      replace hnn := Lib.hid hnn
      gi_wp2
      have hLen : (pre ++ [x]).length = nn := by rw [List.length_append, List.length_singleton]; exact hnn.out
      refine ⟨HF.out.1, ?_⟩
      show PosI w _ (pre ++ [x]).length _ ∧ _ ∧ (pre ++ [x]).length ≤ 100000
      rw [hLen]
      exact ⟨⟨HF.out.2.1, HF.out.2.2.1, HF.out.2.2.2⟩, HLx.out, by have := HPl.out; have := hnn.out; omega⟩
    · have hge2 : (s : Int) ≤ x := by omega
      have HC := Lib.hid (posL_cut HPr.out HSo.out HLt.out hge)
      gi_wp2
      exact ⟨KpR.of_below (Below.refl _ _), rfl, by rw [HC.out]; exact HP.out⟩
  case done =>
    rintro D V hD ⟨hp, hlt, hpl⟩ hK
    have c1 := hp.2.1.cell
    have HF := Lib.hid (And.intro (posL_all hlt) (hp.ab (AbB.putObj (n0 := W0.heap.size) (l := D) hD hK rfl (.deferred none)) (by omega)).2.2)
    clear hp hlt hpl
    gi_wp2
    refine ⟨by simp, .inl ⟨_, _, rfl, run_takeDeferred hK, ?_⟩⟩
    exact ⟨_, results_tmp rfl _ _ _, by rw [HF.out.1]; rfl, HF.out.2⟩
  case stop =>
    rintro D cd pre V hD ⟨rfl, hp⟩ hK
    have c1 := hp.2.1.cell
    have HF := Lib.hid (hp.ab (AbB.putObj (n0 := W0.heap.size) (l := D) hD hK rfl (.deferred none)) (by omega)).2.2
    clear hp
    gi_wp2
    refine ⟨by simp, .inl ⟨_, _, rfl, run_takeDeferred hK, ?_⟩⟩
    exact ⟨_, results_tmp rfl _ _ _, rfl, HF.out⟩

theorem bPosition_any (b : Nat) (T : Tb) (hok : TbOk T) (w : World) (hT : TabBlk w b T) :
    Calls Try.prog 24 #[.pointer (some ⟨b, 0, none⟩)] w fun e w' => e = .returned (.int .i64 (posB T : Int)) ∧ Below w.heap.size w w' :=
  bPosition_of _ T.s (thereB T) (by have := thereL_len (memsB T); have := memsB_len T; unfold thereB; omega) (thereB_sorted hok) w (fun _ => ⟨b, T, rfl, hT, rfl⟩)
    fun V hV m => bthere_in m _ _ V fun V2 hV2 m2 => ball_in m2 b T V2 (hT.on (hV.trans (hV2.mono hV.size)))
theorem bPosition_nil (w : World) : Calls Try.prog 24 #[.pointer none] w fun e w' => e = .returned (.int .i64 0) ∧ Below w.heap.size w w' :=
  bPosition_of none 0 [] (by simp) List.Pairwise.nil w (fun h => absurd rfl h) fun V _ m => bthere_in m _ [] V fun V2 _ m2 => ball_nil m2 V2

end Go.Proofs.Ytccldbophonloaa
