/-
  Maps of package crdt in memory; what New, Len and Put do.
-/
import Derived.Test.YtkbonifbnbdbkabC1
namespace Go.Proofs.Ytkbonifbnbdbkab
open Go.RowKit Go.Maps

theorem gOfC {w w' : World} (h : Below w.heap.size w w') (row : Option Nat) : w.grownBy w' row := ⟨h.os, h.tape, h.output, h.size, fun k hk _ => h.block k hk⟩
/-- The block of a map: the block of its entries. -/
def CmBlk (w : World) (sb bm : Nat) : Prop := w.heap[sb]? = some (.cells #[.map (some bm)] 54 (0, 0))
theorem CmBlk.c0 {w : World} {sb bm : Nat} (h : CmBlk w sb bm) : w.cell? ⟨sb, 0, none⟩ = some (.map (some bm)) := cellE h
theorem CmBlk.lt {w : World} {sb bm : Nat} (h : CmBlk w sb bm) : sb < w.heap.size := ltE h
theorem CmBlk.below {w w' : World} {sb bm B : Nat} (h : CmBlk w sb bm) (hb : Below B w w') (hB : sb < B) : CmBlk w' sb bm := (hb.block sb hB).trans h
theorem CmBlk.kept {w w' : World} {sb bm : Nat} {row : Option Nat} (h : CmBlk w sb bm) (hg : w.grownBy w' row) (hne : some sb ≠ row) : CmBlk w' sb bm := (hg.block sb h.lt hne).trans h

theorem checkEn_zero {x : Ent} (h : checkEn x = 0) : 0 < x.k.size ∧ x.k.size ≤ 1024 ∧ x.v.size ≤ 8192 ∧ 0 ≤ x.t ∧ x.t ≤ x.u ∧ x.u ≤ 1099511627776 := by
  unfold checkEn at h
  split at h
  · cases h
  · split at h
    · cases h
    · omega
theorem key_fits {x : Ent} (h : checkEn x = 0) : x.k.size ≤ maxLen := by
  have := checkEn_zero h
  unfold maxLen
  omega

/-- A map: its block, its entries' block, its entries. -/
def CAt (w : World) (sb bm : Nat) (S : List Ent) : Prop := CmBlk w sb bm ∧ CMap w bm S ∧ (∀ r ∈ S, checkEn r = 0) ∧ S.length ≤ 256
theorem CAt.below {w w' : World} {sb bm : Nat} {S : List Ent} (h : CAt w sb bm S) {B : Nat} (hb : Below B w w') (hB : w.heap.size ≤ B) : CAt w' sb bm S :=
  ⟨h.1.below hb (Nat.lt_of_lt_of_le h.1.lt hB), h.2.1.below hb (Nat.lt_of_lt_of_le h.2.1.lt hB), h.2.2⟩
theorem CAt.on {w w' : World} {sb bm : Nat} {S : List Ent} (h : CAt w sb bm S) (hb : Below w.heap.size w w') : CAt w' sb bm S := h.below hb (Nat.le_refl _)
theorem CAt.ne {w : World} {sb bm : Nat} {S : List Ent} (h : CAt w sb bm S) : sb ≠ bm := fun e => by
  obtain ⟨h1, ⟨es, clock, hb, -⟩, -⟩ := h
  subst e
  unfold CmBlk at h1
  rw [hb] at h1
  cases h1
theorem CAt.turn {w w' : World} {sb bm : Nat} {S : List Ent} (h : CAt w sb bm S) (hg : w.grownBy w' (some bm)) {S' : List Ent} (hm : CMap w' bm S') (hS : ∀ r ∈ S', checkEn r = 0) (hn : S'.length ≤ 256) : CAt w' sb bm S' :=
  ⟨h.1.kept hg (fun e => h.ne (Option.some.inj e)), hm, hS, hn⟩
/-- What another map's block of entries becomes changes nothing here. -/
theorem CAt.apart {w w' : World} {sb bm bx : Nat} {S : List Ent} (h : CAt w sb bm S) (hg : w.grownBy w' (some bx)) (h1 : sb ≠ bx) (h2 : bm ≠ bx) : CAt w' sb bm S :=
  ⟨h.1.kept hg (fun e => h1 (Option.some.inj e)), h.2.1.kept hg (fun e => h2 (Option.some.inj e)), h.2.2⟩
theorem CAt.rising {w : World} {sb bm : Nat} {S : List Ent} (h : CAt w sb bm S) : RisingC S := h.2.1.rising

/-- The entry of a key, if there is one. -/
def gotC (S : List Ent) (k : List UInt8) : Option Ent := S.find? (fun r => r.key == k)
theorem gotC_mem {S : List Ent} {k : List UInt8} {y : Ent} (h : gotC S k = some y) : y ∈ S ∧ y.key = k := ⟨List.mem_of_find?_eq_some h, by simpa using List.find?_some h⟩
theorem gotC_none {S : List Ent} {k : List UInt8} (h : gotC S k = none) : ∀ r ∈ S, r.key ≠ k := fun r hr e => by simpa [e] using List.find?_eq_none.1 h r hr
theorem gotC_some {S : List Ent} (hR : RisingC S) {y : Ent} (hy : y ∈ S) : gotC S y.key = some y := find_keyC hR hy
/-- Why an entry is not taken (0: it may be). -/
def cputE (S : List Ent) (x : Ent) : Int := if checkEn x ≠ 0 then checkEn x else if (gotC S x.key).isNone ∧ 256 ≤ S.length then 11 else 0
/-- Whether the map is another one then. -/
def cputB (S : List Ent) (x : Ent) : Bool := decide (cputE S x = 0) && (match gotC S x.key with | some y => aboveE x y | none => true)
def cputS (S : List Ent) (x : Ent) : List Ent := if cputB S x then putC x S else S

theorem mem_insC {x y : Ent} : ∀ {S : List Ent}, y ∈ insC x S ↔ y = x ∨ y ∈ S
  | [] => by simp [insC]
  | z :: l => by
    rw [insC]
    split
    · simp
    · rw [List.mem_cons, mem_insC, List.mem_cons]
      constructor
      · rintro (h | h | h)
        · exact .inr (.inl h)
        · exact .inl h
        · exact .inr (.inr h)
      · rintro (h | h | h)
        · exact .inr (.inl h)
        · exact .inl h
        · exact .inr (.inr h)
theorem len_insC (x : Ent) : ∀ (S : List Ent), (insC x S).length = S.length + 1
  | [] => rfl
  | z :: l => by
    rw [insC]
    split
    · simp
    · simp [len_insC x l]
theorem mem_putC {x y : Ent} {S : List Ent} : y ∈ putC x S ↔ y = x ∨ (y ∈ S ∧ y.key ≠ x.key) := by
  unfold putC
  rw [mem_insC, List.mem_filter]
  simp
theorem putC_new {x : Ent} {S : List Ent} (h : ∀ r ∈ S, r.key ≠ x.key) : (putC x S).length = S.length + 1 := by
  unfold putC
  rw [len_insC, List.filter_eq_self.2 fun r hr => by simpa using h r hr]
theorem struckC : ∀ {S : List Ent} {x : Ent}, RisingC S → x ∈ S → (S.filter fun y => !(y.key == x.key)).length + 1 = S.length
  | y :: l, x, hR, hx => by
    have hl := (List.pairwise_cons.1 hR).2
    rcases List.mem_cons.1 hx with rfl | hx'
    · have : (l.filter fun y => !(y.key == x.key)) = l := List.filter_eq_self.2 fun r hr => by
        have := (List.pairwise_cons.1 hR).1 r hr
        simp only [Bool.not_eq_true', beq_eq_false_iff_ne]
        intro e
        rw [e] at this
        exact key_irreflC _ this
      rw [List.filter_cons]
      simp [this]
    · have hlt := (List.pairwise_cons.1 hR).1 x hx'
      have hne : (y.key == x.key) = false := by
        rw [beq_eq_false_iff_ne]
        intro e
        rw [e] at hlt
        exact key_irreflC _ hlt
      have ih := struckC hl hx'
      rw [List.filter_cons, hne]
      simp only [Bool.not_false, if_true, List.length_cons]
      omega
theorem putC_old {x y : Ent} {S : List Ent} (hR : RisingC S) (hy : y ∈ S) (e : y.key = x.key) : (putC x S).length = S.length := by
  have := struckC hR hy
  unfold putC
  rw [len_insC, ← e]
  exact this

set_option maxHeartbeats 1000000 in
theorem cNew_any (w : World) : Calls Try.prog 7 #[] w fun e w' => e = .returned (.pointer (some ⟨w.heap.size + 1, 0, none⟩)) ∧ w' = (w.alloc (.map #[] 0)).alloc (.cells #[.map (some w.heap.size)] 54) := by
  have hmm := @run_makeMap Try.prog
  go_enter Try.func7, Try.ntmps7
  go_wp2
  go_ret
  exact ⟨by simp, rfl⟩
/-- A new map. -/
theorem cNew_at (w : World) : Calls Try.prog 7 #[] w fun e w' => e = .returned (.pointer (some ⟨w.heap.size + 1, 0, none⟩)) ∧ CAt w' (w.heap.size + 1) w.heap.size [] ∧ Below w.heap.size w w' := by
  refine (cNew_any w).mono ?_
  rintro e w' ⟨rfl, rfl⟩
  have d1 := (Below.refl w.heap.size w).alloc (Nat.le_refl _) (.map #[] 0)
  have d2 := (Below.refl _ (w.alloc (.map #[] 0))).alloc (Nat.le_refl _) (.cells #[.map (some w.heap.size)] 54)
  have m := CMap.made w
  refine ⟨rfl, ⟨?_, m.below d2 m.lt, (fun r hr => by cases hr), Nat.zero_le _⟩, d1.trans (d2.mono d1.size)⟩
  have := newE (w.alloc (.map #[] 0)) (.cells #[.map (some w.heap.size)] 54)
  rw [World.size_alloc] at this
  exact this
set_option maxHeartbeats 1000000 in
theorem cLen_any (sb bm : Nat) (S : List Ent) (w : World) (h : CAt w sb bm S) : Calls Try.prog 24 #[.pointer (some ⟨sb, 0, none⟩)] w fun e w' => e = .returned (.int .i64 (S.length : Int)) ∧ w' = w := by
  have c0 := h.1.c0
  have hs := h.2.1.size
  clear h
  go_enter Try.func24, Try.ntmps24
  go_wp2
  go_ret
  exact ⟨rfl, rfl⟩

theorem CAt.drew' {w : World} {sb bm : Nat} {S : List Ent} (h : CAt w sb bm S) : CAt w.drew sb bm S := h
/-- A block of an entry is no map's. -/
theorem EBlk.notmap {w : World} {B : Nat} {x : Ent} {S : List Ent} (h : EBlk w B x) (hm : CMap w B S) : False := by
  obtain ⟨es, clock, hb, -⟩ := hm
  unfold EBlk at h
  rw [hb] at h
  cases h

set_option maxHeartbeats 8000000 in
set_option maxRecDepth 100000 in
theorem cPut_err (sb bm : Nat) (S : List Ent) (x : Ent) (w : World) (h : CAt w sb bm S) (hE : checkEn x ≠ 0) :
    Calls Try.prog 22 #[.pointer (some ⟨sb, 0, none⟩), .agg #[.string x.k, .int .i64 x.t, .int .u16 x.o, .string x.v, .int .i64 x.u]] w fun e w' => e = .returned (.tuple #[.bool false, .int .i64 (checkEn x)]) ∧ CAt w' sb bm S ∧ w.grownBy w' (some bm) := by
  have HC0 := eCheck_any x (w.alloc (.cells #[.string x.k, .int .i64 x.t, .int .u16 x.o, .string x.v, .int .i64 x.u] 36))
  obtain ⟨kx, tx, ox, vx, ux⟩ := x
  have hE' : (checkEn (⟨kx, tx, ox, vx, ux⟩ : Ent) != 0) = true := by simpa using hE
  generalize checkEn (⟨kx, tx, ox, vx, ux⟩ : Ent) = ch at *
  have b1 := EBlk.new w (⟨kx, tx, ox, vx, ux⟩ : Ent)
  have d1 := (Below.refl w.heap.size w).alloc (Nat.le_refl _) (.cells #[.string kx, .int .i64 tx, .int .u16 ox, .string vx, .int .i64 ux] 36)
  have HC := Lib.hid HC0
  have HH := Lib.hid (And.intro h (And.intro b1 d1))
  clear HC0 h b1 d1 hE
  dsimp only at HC
  go_enter Try.func22, Try.ntmps22
  go_wp2_with (go_at_call 34; refine HC.out.mono ?_; rintro r w2 ⟨rfl, q2⟩; refine Hid.out ?_)
  refine Lib.hid ?_
  obtain ⟨h, b1, d1⟩ := HH.out
  have d2 := d1.trans (q2.mono d1.size)
  have b2 := b1.on q2
  have h2 := h.on d2
  have HZ := Lib.hid (And.intro h2 (gOfC d2 (some bm)))
  clear h b1 d1 d2 b2 h2 q2 HC HH
  go_wp2
  exact bodyPost_ret (v := .tuple #[.bool false, .int .i64 ch]) (by simp [results, Try.results22, go_sem]) rfl ⟨rfl, HZ.out.1, HZ.out.2⟩

set_option maxHeartbeats 8000000 in
set_option maxRecDepth 100000 in
theorem cPut_full (sb bm : Nat) (S : List Ent) (x : Ent) (w : World) (h : CAt w sb bm S) (hE : checkEn x = 0) (hno : ∀ r ∈ S, r.key ≠ x.key) (hn : 256 ≤ S.length) :
    Calls Try.prog 22 #[.pointer (some ⟨sb, 0, none⟩), .agg #[.string x.k, .int .i64 x.t, .int .u16 x.o, .string x.v, .int .i64 x.u]] w fun e w' => e = .returned (.tuple #[.bool false, .int .i64 11]) ∧ CAt w' sb bm S ∧ w.grownBy w' (some bm) := by
  have HC0 := eCheck_any x (w.alloc (.cells #[.string x.k, .int .i64 x.t, .int .u16 x.o, .string x.v, .int .i64 x.u] 36))
  rw [hE] at HC0
  have hl0 : ∀ u, Below w.heap.size w u → (Instr.lookup 52 (.map (some bm)) (.string x.k) true).run Try.prog u = .ok (.tuple #[.agg #[.string ⟨#[]⟩, .int .i64 0, .int .u16 0, .string ⟨#[]⟩, .int .i64 0], .bool false]) u := fun u q => (h.on q).2.1.look_no (key_fits hE) hno true
  obtain ⟨kx, tx, ox, vx, ux⟩ := x
  have b1 := EBlk.new w (⟨kx, tx, ox, vx, ux⟩ : Ent)
  have d1 := (Below.refl w.heap.size w).alloc (Nat.le_refl _) (.cells #[.string kx, .int .i64 tx, .int .u16 ox, .string vx, .int .i64 ux] 36)
  have HC := Lib.hid HC0
  have HH := Lib.hid (And.intro h (And.intro b1 d1))
  have HL := Lib.hid hl0
  have hn' :  (256 : Int) ≤ (S.length : Int) := by omega
  clear HC0 h b1 d1 hl0 hE hno hn
  dsimp only at HC HL
  go_enter Try.func22, Try.ntmps22
  go_wp2_with (go_at_call 34; refine HC.out.mono ?_; rintro r w2 ⟨rfl, q2⟩; refine Hid.out ?_)
  refine Lib.hid ?_
  obtain ⟨h, b1, d1⟩ := HH.out
  have d2 := d1.trans (q2.mono d1.size)
  have b2 := b1.on q2
  have h2 := h.on d2
  clear h b1 d1 q2 HC HH
  go_wp2_with fail
  refine wp_region_any (by kernel_rfl) ?_
  change wpAny _ _ _ _ _ _ _ (World.drew _)
  have hS : (fun w' : World => CmBlk w' sb bm ∧ EBlk w' w.heap.size (⟨kx, tx, ox, vx, ux⟩ : Ent) ∧ Below w.heap.size w w') w2.drew := ⟨h2.1, b2, d2.drew⟩
  refine wpAny_of_held (S := fun w' => CmBlk w' sb bm ∧ EBlk w' w.heap.size (⟨kx, tx, ox, vx, ux⟩ : Ent) ∧ Below w.heap.size w w') _ _ _ _ ?_
  have HD2 := Lib.hid (And.intro h2 (And.intro b2 d2))
  clear h2 b2 d2
  refine wpAnyH_takeE (i := 0) (some 17) (v := ?_) rfl rfl (by as_aux_lemma => kernel_rfl) (by as_aux_lemma => kernel_rfl) (by as_aux_lemma => kernel_rfl) (fun _ _ _ h => h) (Or.inl ⟨by kernel_rfl, ?_⟩) hS ?_
  rotate_left
  · intro wq hSw; have c0 := hSw.1.c0; have k0 := hSw.2.1.c0; have hl := HL.out _ hSw.2.2; go_simp
    first | done | with_reducible rfl
  refine wpAnyH_takeE (i := 1) (some 18) (v := ?_) rfl rfl (by as_aux_lemma => kernel_rfl) (by as_aux_lemma => kernel_rfl) (by as_aux_lemma => kernel_rfl) (fun _ _ _ h => h) (Or.inl ⟨by kernel_rfl, ?_⟩) hS ?_
  rotate_left
  · intro wq hSw; have c0 := hSw.1.c0; have k0 := hSw.2.1.c0; have hl := HL.out _ hSw.2.2; go_simp
    first | done | with_reducible rfl
  refine wpAnyH_takeE (i := 2) (some 19) (v := ?_) rfl rfl (by as_aux_lemma => kernel_rfl) (by as_aux_lemma => kernel_rfl) (by as_aux_lemma => kernel_rfl) (fun _ _ _ h => h) (Or.inl ⟨by kernel_rfl, ?_⟩) hS ?_
  rotate_left
  · intro wq hSw; have c0 := hSw.1.c0; have k0 := hSw.2.1.c0; have hl := HL.out _ hSw.2.2; go_simp
    first | done | with_reducible rfl
  refine wpAnyH_takeE (i := 3) (some 20) (v := ?_) rfl rfl (by as_aux_lemma => kernel_rfl) (by as_aux_lemma => kernel_rfl) (by as_aux_lemma => kernel_rfl) (fun _ _ _ h => h) (Or.inl ⟨by kernel_rfl, ?_⟩) hS ?_
  rotate_left
  · intro wq hSw; have c0 := hSw.1.c0; have k0 := hSw.2.1.c0; have hl := HL.out _ hSw.2.2; go_simp
    first | done | with_reducible rfl
  refine wpAnyH_takeE (i := 4) (some 21) (v := ?_) rfl rfl (by as_aux_lemma => kernel_rfl) (by as_aux_lemma => kernel_rfl) (by as_aux_lemma => kernel_rfl) (fun _ _ _ h => h) (Or.inl ⟨by kernel_rfl, ?_⟩) hS ?_
  rotate_left
  · intro wq hSw; have c0 := hSw.1.c0; have k0 := hSw.2.1.c0; have hl := HL.out _ hSw.2.2; go_simp
    first | done | with_reducible rfl
  refine wpAnyH_takeE (i := 5) (some 22) (v := ?_) rfl rfl (by as_aux_lemma => kernel_rfl) (by as_aux_lemma => kernel_rfl) (by as_aux_lemma => kernel_rfl) (fun _ _ _ h => h) (Or.inl ⟨by kernel_rfl, ?_⟩) hS ?_
  rotate_left
  · intro wq hSw; have c0 := hSw.1.c0; have k0 := hSw.2.1.c0; have hl := HL.out _ hSw.2.2; go_simp
    first | done | with_reducible rfl
  refine wpAnyH_takeE (i := 6) (some 23) (v := ?_) rfl rfl (by as_aux_lemma => kernel_rfl) (by as_aux_lemma => kernel_rfl) (by as_aux_lemma => kernel_rfl) (fun _ _ _ h => h) (Or.inl ⟨by kernel_rfl, ?_⟩) hS ?_
  rotate_left
  · intro wq hSw; have c0 := hSw.1.c0; have k0 := hSw.2.1.c0; have hl := HL.out _ hSw.2.2; go_simp
    first | done | with_reducible rfl
  refine wpAnyH_takeE (i := 7) (some 16) (v := ?_) rfl rfl (by as_aux_lemma => kernel_rfl) (by as_aux_lemma => kernel_rfl) (by as_aux_lemma => kernel_rfl) (fun _ _ _ h => h) (Or.inl ⟨by kernel_rfl, ?_⟩) hS ?_
  rotate_left
  · intro wq hSw; have c0 := hSw.1.c0; have k0 := hSw.2.1.c0; have hl := HL.out _ hSw.2.2; go_simp
    first | done | with_reducible rfl
  refine wpAnyH_takeE (i := 8) (some 24) (v := ?_) rfl rfl (by as_aux_lemma => kernel_rfl) (by as_aux_lemma => kernel_rfl) (by as_aux_lemma => kernel_rfl) (fun _ _ _ h => h) (Or.inl ⟨by kernel_rfl, ?_⟩) hS ?_
  rotate_left
  · intro wq hSw; have c0 := hSw.1.c0; have k0 := hSw.2.1.c0; have hl := HL.out _ hSw.2.2; go_simp
    first | done | with_reducible rfl
  refine wpAnyH_takeE (i := 9) (some 25) (v := ?_) rfl rfl (by as_aux_lemma => kernel_rfl) (by as_aux_lemma => kernel_rfl) (by as_aux_lemma => kernel_rfl) (fun _ _ _ h => h) (Or.inl ⟨by kernel_rfl, ?_⟩) hS ?_
  rotate_left
  · intro wq hSw; have c0 := hSw.1.c0; have k0 := hSw.2.1.c0; have hl := HL.out _ hSw.2.2; go_simp
    first | done | with_reducible rfl
  refine wpAnyH_ready (rs := [10]) (by as_aux_lemma => kernel_rfl) (by simp) ?_
  refine AllReadyH.cons rfl (fun K hK => ?_) AllReadyH.nil
  go_simp
  refine hK.out _ _ ?_ (fun hS => ?_)
  · exact ⟨hS.1.below ((Below.refl _ _).alloc (Nat.le_refl _) _) hS.1.lt, hS.2.1.on ((Below.refl _ _).alloc (Nat.le_refl _) _), hS.2.2.alloc hS.2.2.size _⟩
  clear hK K
  obtain ⟨h2, b2, d2⟩ := HD2.out
  have e3 := EBlk.new w2.drew zeroE
  have f0 := e3.f 0; have f1 := e3.f 1; have f2 := e3.f 2; have f3 := e3.f 3; have f4 := e3.f 4
  have x0 := e3.c0; have x1 := e3.c1; have x2 := e3.c2; have x3 := e3.c3; have x4 := e3.c4
  dsimp only [zeroE] at x0 x1 x2 x3 x4 f0 f1 f2 f3 f4
  have g3 := EBlk.new w2 zeroE
  have d4 := (Below.refl w2.heap.size w2).alloc (Nat.le_refl _) (.cells #[.string ⟨#[]⟩, .int .i64 0, .int .u16 0, .string ⟨#[]⟩, .int .i64 0] 36)
  have b4 := b2.on d4
  have h4 := h2.on d4
  have q4 := d2.trans (d4.mono d2.size)
  have HZ := Lib.hid (And.intro h4 (And.intro b4 (And.intro g3 q4)))
  clear h2 b2 d2 e3 g3 d4 b4 h4 q4 HD2
  refine wpAnyH_ready (rs := [11]) (by as_aux_lemma => kernel_rfl) (by simp) ?_
  refine AllReadyH.cons rfl (fun K hK => ?_) AllReadyH.nil
  go_simp
  refine hK.out _ _ ?_ (fun hS => ?_)
  · exact ⟨HZ.out.1.1, HZ.out.2.1, HZ.out.2.2.2.drew⟩
  clear hK K f0 f1 f2 f3 f4 x0 x1 x2 x3 x4
  refine wpAnyH_takeE (i := 12) (some 8) (v := ?_) rfl rfl (by as_aux_lemma => kernel_rfl) (by as_aux_lemma => kernel_rfl) (by as_aux_lemma => kernel_rfl) (fun _ _ _ h => h) (Or.inl ⟨by kernel_rfl, ?_⟩) hS ?_
  rotate_left
  · intro wq hSw; have c0 := hSw.1.c0; have k0 := hSw.2.1.c0; have hl := HL.out _ hSw.2.2; go_simp
    first | done | with_reducible rfl
  refine wpAnyH_done (by kernel_rfl) ?_ _
  clear hS
  obtain ⟨h4, b4, g4, q4⟩ := HZ.out
  clear HZ
  generalize w2.alloc (.cells #[.string ⟨#[]⟩, .int .i64 0, .int .u16 0, .string ⟨#[]⟩, .int .i64 0] 36) = w4 at *
  replace h4 := h4.drew'
  replace b4 := b4.drew
  replace g4 := g4.drew
  replace q4 := q4.drew
  generalize w4.drew = w4 at *
  have m0 := h4.1.c0
  have hsz := h4.2.1.size
  have HF := Lib.hid (And.intro h4 (gOfC q4 (some bm)))
  clear h4 b4 g4 q4
  go_wp2
  exact bodyPost_ret (v := .tuple #[.bool false, .int .i64 11]) (by simp [results, Try.results22, go_sem]) rfl ⟨rfl, HF.out.1, HF.out.2⟩

set_option maxHeartbeats 8000000 in
set_option maxRecDepth 100000 in
theorem cPut_new (sb bm : Nat) (S : List Ent) (x : Ent) (w : World) (h : CAt w sb bm S) (hE : checkEn x = 0) (hno : ∀ r ∈ S, r.key ≠ x.key) (hn : ¬ 256 ≤ S.length) :
    Calls Try.prog 22 #[.pointer (some ⟨sb, 0, none⟩), .agg #[.string x.k, .int .i64 x.t, .int .u16 x.o, .string x.v, .int .i64 x.u]] w fun e w' => e = .returned (.tuple #[.bool true, .int .i64 0]) ∧ CAt w' sb bm (putC x S) ∧ w.grownBy w' (some bm) := by
  have HC0 := eCheck_any x (w.alloc (.cells #[.string x.k, .int .i64 x.t, .int .u16 x.o, .string x.v, .int .i64 x.u] 36))
  rw [hE] at HC0
  have hl0 : ∀ u, Below w.heap.size w u → (Instr.lookup 52 (.map (some bm)) (.string x.k) true).run Try.prog u = .ok (.tuple #[.agg #[.string ⟨#[]⟩, .int .i64 0, .int .u16 0, .string ⟨#[]⟩, .int .i64 0], .bool false]) u := fun u q => (h.on q).2.1.look_no (key_fits hE) hno true
  have hfin : ∀ u u', Below w.heap.size w u → CMap u' bm (putC x S) → u.grownBy u' (some bm) → CAt u' sb bm (putC x S) := fun u u' q hm hg =>
    (h.on q).turn hg hm (fun r hr => by rcases mem_putC.1 hr with rfl | hr; exact hE; exact h.2.2.1 r hr.1) (by have := h.2.2.2; rw [putC_new hno]; omega)
  have hkf := key_fits hE
  obtain ⟨kx, tx, ox, vx, ux⟩ := x
  have b1 := EBlk.new w (⟨kx, tx, ox, vx, ux⟩ : Ent)
  have d1 := (Below.refl w.heap.size w).alloc (Nat.le_refl _) (.cells #[.string kx, .int .i64 tx, .int .u16 ox, .string vx, .int .i64 ux] 36)
  have HC := Lib.hid HC0
  have HH := Lib.hid (And.intro h (And.intro b1 d1))
  have HL := Lib.hid hl0
  have HF := Lib.hid hfin
  have HKF := Lib.hid hkf
  have hn' : ¬ (256 : Int) ≤ (S.length : Int) := by omega
  clear HC0 h b1 d1 hl0 hE hfin hkf hno hn
  dsimp only at HC HL
  go_enter Try.func22, Try.ntmps22
  go_wp2_with (go_at_call 34; refine HC.out.mono ?_; rintro r w2 ⟨rfl, q2⟩; refine Hid.out ?_)
  refine Lib.hid ?_
  obtain ⟨h, b1, d1⟩ := HH.out
  have d2 := d1.trans (q2.mono d1.size)
  have b2 := b1.on q2
  have h2 := h.on d2
  clear h b1 d1 q2 HC HH
  go_wp2_with fail
  refine wp_region_any (by kernel_rfl) ?_
  change wpAny _ _ _ _ _ _ _ (World.drew _)
  have hS : (fun w' : World => CmBlk w' sb bm ∧ EBlk w' w.heap.size (⟨kx, tx, ox, vx, ux⟩ : Ent) ∧ Below w.heap.size w w') w2.drew := ⟨h2.1, b2, d2.drew⟩
  refine wpAny_of_held (S := fun w' => CmBlk w' sb bm ∧ EBlk w' w.heap.size (⟨kx, tx, ox, vx, ux⟩ : Ent) ∧ Below w.heap.size w w') _ _ _ _ ?_
  have HD2 := Lib.hid (And.intro h2 (And.intro b2 d2))
  clear h2 b2 d2
  refine wpAnyH_takeE (i := 0) (some 17) (v := ?_) rfl rfl (by as_aux_lemma => kernel_rfl) (by as_aux_lemma => kernel_rfl) (by as_aux_lemma => kernel_rfl) (fun _ _ _ h => h) (Or.inl ⟨by kernel_rfl, ?_⟩) hS ?_
  rotate_left
  · intro wq hSw; have c0 := hSw.1.c0; have k0 := hSw.2.1.c0; have hl := HL.out _ hSw.2.2; go_simp
    first | done | with_reducible rfl
  refine wpAnyH_takeE (i := 1) (some 18) (v := ?_) rfl rfl (by as_aux_lemma => kernel_rfl) (by as_aux_lemma => kernel_rfl) (by as_aux_lemma => kernel_rfl) (fun _ _ _ h => h) (Or.inl ⟨by kernel_rfl, ?_⟩) hS ?_
  rotate_left
  · intro wq hSw; have c0 := hSw.1.c0; have k0 := hSw.2.1.c0; have hl := HL.out _ hSw.2.2; go_simp
    first | done | with_reducible rfl
  refine wpAnyH_takeE (i := 2) (some 19) (v := ?_) rfl rfl (by as_aux_lemma => kernel_rfl) (by as_aux_lemma => kernel_rfl) (by as_aux_lemma => kernel_rfl) (fun _ _ _ h => h) (Or.inl ⟨by kernel_rfl, ?_⟩) hS ?_
  rotate_left
  · intro wq hSw; have c0 := hSw.1.c0; have k0 := hSw.2.1.c0; have hl := HL.out _ hSw.2.2; go_simp
    first | done | with_reducible rfl
  refine wpAnyH_takeE (i := 3) (some 20) (v := ?_) rfl rfl (by as_aux_lemma => kernel_rfl) (by as_aux_lemma => kernel_rfl) (by as_aux_lemma => kernel_rfl) (fun _ _ _ h => h) (Or.inl ⟨by kernel_rfl, ?_⟩) hS ?_
  rotate_left
  · intro wq hSw; have c0 := hSw.1.c0; have k0 := hSw.2.1.c0; have hl := HL.out _ hSw.2.2; go_simp
    first | done | with_reducible rfl
  refine wpAnyH_takeE (i := 4) (some 21) (v := ?_) rfl rfl (by as_aux_lemma => kernel_rfl) (by as_aux_lemma => kernel_rfl) (by as_aux_lemma => kernel_rfl) (fun _ _ _ h => h) (Or.inl ⟨by kernel_rfl, ?_⟩) hS ?_
  rotate_left
  · intro wq hSw; have c0 := hSw.1.c0; have k0 := hSw.2.1.c0; have hl := HL.out _ hSw.2.2; go_simp
    first | done | with_reducible rfl
  refine wpAnyH_takeE (i := 5) (some 22) (v := ?_) rfl rfl (by as_aux_lemma => kernel_rfl) (by as_aux_lemma => kernel_rfl) (by as_aux_lemma => kernel_rfl) (fun _ _ _ h => h) (Or.inl ⟨by kernel_rfl, ?_⟩) hS ?_
  rotate_left
  · intro wq hSw; have c0 := hSw.1.c0; have k0 := hSw.2.1.c0; have hl := HL.out _ hSw.2.2; go_simp
    first | done | with_reducible rfl
  refine wpAnyH_takeE (i := 6) (some 23) (v := ?_) rfl rfl (by as_aux_lemma => kernel_rfl) (by as_aux_lemma => kernel_rfl) (by as_aux_lemma => kernel_rfl) (fun _ _ _ h => h) (Or.inl ⟨by kernel_rfl, ?_⟩) hS ?_
  rotate_left
  · intro wq hSw; have c0 := hSw.1.c0; have k0 := hSw.2.1.c0; have hl := HL.out _ hSw.2.2; go_simp
    first | done | with_reducible rfl
  refine wpAnyH_takeE (i := 7) (some 16) (v := ?_) rfl rfl (by as_aux_lemma => kernel_rfl) (by as_aux_lemma => kernel_rfl) (by as_aux_lemma => kernel_rfl) (fun _ _ _ h => h) (Or.inl ⟨by kernel_rfl, ?_⟩) hS ?_
  rotate_left
  · intro wq hSw; have c0 := hSw.1.c0; have k0 := hSw.2.1.c0; have hl := HL.out _ hSw.2.2; go_simp
    first | done | with_reducible rfl
  refine wpAnyH_takeE (i := 8) (some 24) (v := ?_) rfl rfl (by as_aux_lemma => kernel_rfl) (by as_aux_lemma => kernel_rfl) (by as_aux_lemma => kernel_rfl) (fun _ _ _ h => h) (Or.inl ⟨by kernel_rfl, ?_⟩) hS ?_
  rotate_left
  · intro wq hSw; have c0 := hSw.1.c0; have k0 := hSw.2.1.c0; have hl := HL.out _ hSw.2.2; go_simp
    first | done | with_reducible rfl
  refine wpAnyH_takeE (i := 9) (some 25) (v := ?_) rfl rfl (by as_aux_lemma => kernel_rfl) (by as_aux_lemma => kernel_rfl) (by as_aux_lemma => kernel_rfl) (fun _ _ _ h => h) (Or.inl ⟨by kernel_rfl, ?_⟩) hS ?_
  rotate_left
  · intro wq hSw; have c0 := hSw.1.c0; have k0 := hSw.2.1.c0; have hl := HL.out _ hSw.2.2; go_simp
    first | done | with_reducible rfl
  refine wpAnyH_ready (rs := [10]) (by as_aux_lemma => kernel_rfl) (by simp) ?_
  refine AllReadyH.cons rfl (fun K hK => ?_) AllReadyH.nil
  go_simp
  refine hK.out _ _ ?_ (fun hS => ?_)
  · exact ⟨hS.1.below ((Below.refl _ _).alloc (Nat.le_refl _) _) hS.1.lt, hS.2.1.on ((Below.refl _ _).alloc (Nat.le_refl _) _), hS.2.2.alloc hS.2.2.size _⟩
  clear hK K
  obtain ⟨h2, b2, d2⟩ := HD2.out
  have e3 := EBlk.new w2.drew zeroE
  have f0 := e3.f 0; have f1 := e3.f 1; have f2 := e3.f 2; have f3 := e3.f 3; have f4 := e3.f 4
  have x0 := e3.c0; have x1 := e3.c1; have x2 := e3.c2; have x3 := e3.c3; have x4 := e3.c4
  dsimp only [zeroE] at x0 x1 x2 x3 x4 f0 f1 f2 f3 f4
  have g3 := EBlk.new w2 zeroE
  have d4 := (Below.refl w2.heap.size w2).alloc (Nat.le_refl _) (.cells #[.string ⟨#[]⟩, .int .i64 0, .int .u16 0, .string ⟨#[]⟩, .int .i64 0] 36)
  have b4 := b2.on d4
  have h4 := h2.on d4
  have q4 := d2.trans (d4.mono d2.size)
  have HZ := Lib.hid (And.intro h4 (And.intro b4 (And.intro g3 q4)))
  clear h2 b2 d2 e3 g3 d4 b4 h4 q4 HD2
  refine wpAnyH_ready (rs := [11]) (by as_aux_lemma => kernel_rfl) (by simp) ?_
  refine AllReadyH.cons rfl (fun K hK => ?_) AllReadyH.nil
  go_simp
  refine hK.out _ _ ?_ (fun hS => ?_)
  · exact ⟨HZ.out.1.1, HZ.out.2.1, HZ.out.2.2.2.drew⟩
  clear hK K f0 f1 f2 f3 f4 x0 x1 x2 x3 x4
  refine wpAnyH_takeE (i := 12) (some 8) (v := ?_) rfl rfl (by as_aux_lemma => kernel_rfl) (by as_aux_lemma => kernel_rfl) (by as_aux_lemma => kernel_rfl) (fun _ _ _ h => h) (Or.inl ⟨by kernel_rfl, ?_⟩) hS ?_
  rotate_left
  · intro wq hSw; have c0 := hSw.1.c0; have k0 := hSw.2.1.c0; have hl := HL.out _ hSw.2.2; go_simp
    first | done | with_reducible rfl
  refine wpAnyH_done (by kernel_rfl) ?_ _
  clear hS
  obtain ⟨h4, b4, g4, q4⟩ := HZ.out
  clear HZ
  generalize w2.alloc (.cells #[.string ⟨#[]⟩, .int .i64 0, .int .u16 0, .string ⟨#[]⟩, .int .i64 0] 36) = w4 at *
  replace h4 := h4.drew'
  replace b4 := b4.drew
  replace g4 := g4.drew
  replace q4 := q4.drew
  generalize w4.drew = w4 at *
  have m0 := h4.1.c0
  have hsz := h4.2.1.size
  have HQ := Lib.hid (And.intro h4 (And.intro b4 q4))
  clear h4 b4 g4 q4
  go_wp2_with fail
  clear m0 hsz
  obtain ⟨h5, b5, q5⟩ := HQ.out
  clear HQ
  obtain ⟨w6, hrun, hm6, hg6⟩ := (h5.drew').2.1.put (⟨kx, tx, ox, vx, ux⟩ : Ent) HKF.out (by have := h5.2.2.2; unfold maxLen; omega)
  dsimp only [Ent.val] at hrun
  have hnb : w.heap.size ≠ bm := fun e => b5.notmap (S := S) (by rw [e]; exact h5.2.1)
  refine wp_region_any (by kernel_rfl) ?_
  change wpAny _ _ _ _ _ _ _ (World.drew _)
  have hS : (fun w' : World => CmBlk w' sb bm ∧ EBlk w' w.heap.size (⟨kx, tx, ox, vx, ux⟩ : Ent)) w4.drew := ⟨h5.1, b5⟩
  refine wpAny_of_held (S := fun w' => CmBlk w' sb bm ∧ EBlk w' w.heap.size (⟨kx, tx, ox, vx, ux⟩ : Ent)) _ _ _ _ ?_
  refine wpAnyH_takeE (i := 0) (some 43) (v := ?_) rfl rfl (by as_aux_lemma => kernel_rfl) (by as_aux_lemma => kernel_rfl) (by as_aux_lemma => kernel_rfl) (fun _ _ _ h => h) (Or.inl ⟨by kernel_rfl, ?_⟩) hS ?_
  rotate_left
  · intro wq hSw; have c0 := hSw.1.c0; have k0 := hSw.2.c0; have k1 := hSw.2.c1; have k2 := hSw.2.c2; have k3 := hSw.2.c3; have k4 := hSw.2.c4; go_simp
    first | done | with_reducible rfl
  refine wpAnyH_takeE (i := 1) (some 44) (v := ?_) rfl rfl (by as_aux_lemma => kernel_rfl) (by as_aux_lemma => kernel_rfl) (by as_aux_lemma => kernel_rfl) (fun _ _ _ h => h) (Or.inl ⟨by kernel_rfl, ?_⟩) hS ?_
  rotate_left
  · intro wq hSw; have c0 := hSw.1.c0; have k0 := hSw.2.c0; have k1 := hSw.2.c1; have k2 := hSw.2.c2; have k3 := hSw.2.c3; have k4 := hSw.2.c4; go_simp
    first | done | with_reducible rfl
  refine wpAnyH_takeE (i := 2) (some 45) (v := ?_) rfl rfl (by as_aux_lemma => kernel_rfl) (by as_aux_lemma => kernel_rfl) (by as_aux_lemma => kernel_rfl) (fun _ _ _ h => h) (Or.inl ⟨by kernel_rfl, ?_⟩) hS ?_
  rotate_left
  · intro wq hSw; have c0 := hSw.1.c0; have k0 := hSw.2.c0; have k1 := hSw.2.c1; have k2 := hSw.2.c2; have k3 := hSw.2.c3; have k4 := hSw.2.c4; go_simp
    first | done | with_reducible rfl
  refine wpAnyH_takeE (i := 3) (some 46) (v := ?_) rfl rfl (by as_aux_lemma => kernel_rfl) (by as_aux_lemma => kernel_rfl) (by as_aux_lemma => kernel_rfl) (fun _ _ _ h => h) (Or.inl ⟨by kernel_rfl, ?_⟩) hS ?_
  rotate_left
  · intro wq hSw; have c0 := hSw.1.c0; have k0 := hSw.2.c0; have k1 := hSw.2.c1; have k2 := hSw.2.c2; have k3 := hSw.2.c3; have k4 := hSw.2.c4; go_simp
    first | done | with_reducible rfl
  refine wpAnyH_takeE (i := 4) (some 47) (v := ?_) rfl rfl (by as_aux_lemma => kernel_rfl) (by as_aux_lemma => kernel_rfl) (by as_aux_lemma => kernel_rfl) (fun _ _ _ h => h) (Or.inl ⟨by kernel_rfl, ?_⟩) hS ?_
  rotate_left
  · intro wq hSw; have c0 := hSw.1.c0; have k0 := hSw.2.c0; have k1 := hSw.2.c1; have k2 := hSw.2.c2; have k3 := hSw.2.c3; have k4 := hSw.2.c4; go_simp
    first | done | with_reducible rfl
  refine wpAnyH_takeE (i := 5) (some 48) (v := ?_) rfl rfl (by as_aux_lemma => kernel_rfl) (by as_aux_lemma => kernel_rfl) (by as_aux_lemma => kernel_rfl) (fun _ _ _ h => h) (Or.inl ⟨by kernel_rfl, ?_⟩) hS ?_
  rotate_left
  · intro wq hSw; have c0 := hSw.1.c0; have k0 := hSw.2.c0; have k1 := hSw.2.c1; have k2 := hSw.2.c2; have k3 := hSw.2.c3; have k4 := hSw.2.c4; go_simp
    first | done | with_reducible rfl
  refine wpAnyH_takeE (i := 6) (some 49) (v := ?_) rfl rfl (by as_aux_lemma => kernel_rfl) (by as_aux_lemma => kernel_rfl) (by as_aux_lemma => kernel_rfl) (fun _ _ _ h => h) (Or.inl ⟨by kernel_rfl, ?_⟩) hS ?_
  rotate_left
  · intro wq hSw; have c0 := hSw.1.c0; have k0 := hSw.2.c0; have k1 := hSw.2.c1; have k2 := hSw.2.c2; have k3 := hSw.2.c3; have k4 := hSw.2.c4; go_simp
    first | done | with_reducible rfl
  refine wpAnyH_ready (rs := [7]) (by as_aux_lemma => kernel_rfl) (by simp) ?_
  refine AllReadyH.cons rfl (fun K hK => ?_) AllReadyH.nil
  go_simp
  refine hK.out _ _ ?_ (fun hS => ?_)
  · exact ⟨hS.1.kept hg6 (fun e => h5.ne (Option.some.inj e)), (hg6.block _ hS.2.lt (fun e => hnb (Option.some.inj e))).trans hS.2⟩
  clear hK K
  refine wpAnyH_done (by kernel_rfl) ?_ _
  have HG := Lib.hid (And.intro (HF.out _ _ q5.drew hm6 hg6) ((gOfC q5.drew (some bm)).andThen hg6 (fun j hj => by cases hj; exact Or.inr rfl)))
  clear hS h5 b5 q5 hm6 hg6
  go_wp2
  exact bodyPost_ret (v := .tuple #[.bool true, .int .i64 0]) (by simp [results, Try.results22, go_sem]) rfl ⟨rfl, HG.out.1, HG.out.2⟩

set_option maxHeartbeats 8000000 in
set_option maxRecDepth 100000 in
theorem cPut_stays (sb bm : Nat) (S : List Ent) (x : Ent) (w : World) (h : CAt w sb bm S) (hE : checkEn x = 0) (y : Ent) (hy : y ∈ S) (hk : y.key = x.key) (ha : aboveE x y = false) :
    Calls Try.prog 22 #[.pointer (some ⟨sb, 0, none⟩), .agg #[.string x.k, .int .i64 x.t, .int .u16 x.o, .string x.v, .int .i64 x.u]] w fun e w' => e = .returned (.tuple #[.bool false, .int .i64 0]) ∧ CAt w' sb bm S ∧ w.grownBy w' (some bm) := by
  have HC0 := eCheck_any x (w.alloc (.cells #[.string x.k, .int .i64 x.t, .int .u16 x.o, .string x.v, .int .i64 x.u] 36))
  rw [hE] at HC0
  have hl0 : ∀ u, Below w.heap.size w u → (Instr.lookup 52 (.map (some bm)) (.string x.k) true).run Try.prog u = .ok (.tuple #[.agg #[.string y.k, .int .i64 y.t, .int .u16 y.o, .string y.v, .int .i64 y.u], .bool true]) u := fun u q => by
    have := (h.on q).2.1.look_yes hy (key_fits (h.2.2.1 y hy)) true
    have e : y.k = x.k := bytes_ext hk
    rw [e] at this
    exact this
  have HA := Lib.hid (fun u => eAbove_any x y u)
  rw [ha] at HA
  obtain ⟨ky, ty, oy, vy, uy⟩ := y
  obtain ⟨kx, tx, ox, vx, ux⟩ := x
  have b1 := EBlk.new w (⟨kx, tx, ox, vx, ux⟩ : Ent)
  have d1 := (Below.refl w.heap.size w).alloc (Nat.le_refl _) (.cells #[.string kx, .int .i64 tx, .int .u16 ox, .string vx, .int .i64 ux] 36)
  have HC := Lib.hid HC0
  have HH := Lib.hid (And.intro h (And.intro b1 d1))
  have HL := Lib.hid hl0
  clear HC0 h b1 d1 hl0 hE hy hk ha
  dsimp only at HC HL HA
  go_enter Try.func22, Try.ntmps22
  go_wp2_with (go_at_call 34; refine HC.out.mono ?_; rintro r w2 ⟨rfl, q2⟩; refine Hid.out ?_)
  refine Lib.hid ?_
  obtain ⟨h, b1, d1⟩ := HH.out
  have d2 := d1.trans (q2.mono d1.size)
  have b2 := b1.on q2
  have h2 := h.on d2
  clear h b1 d1 q2 HC HH
  go_wp2_with fail
  refine wp_region_any (by kernel_rfl) ?_
  change wpAny _ _ _ _ _ _ _ (World.drew _)
  have hS : (fun w' : World => CmBlk w' sb bm ∧ EBlk w' w.heap.size (⟨kx, tx, ox, vx, ux⟩ : Ent) ∧ Below w.heap.size w w') w2.drew := ⟨h2.1, b2, d2.drew⟩
  refine wpAny_of_held (S := fun w' => CmBlk w' sb bm ∧ EBlk w' w.heap.size (⟨kx, tx, ox, vx, ux⟩ : Ent) ∧ Below w.heap.size w w') _ _ _ _ ?_
  have HD2 := Lib.hid (And.intro h2 (And.intro b2 d2))
  clear h2 b2 d2
  refine wpAnyH_takeE (i := 0) (some 17) (v := ?_) rfl rfl (by as_aux_lemma => kernel_rfl) (by as_aux_lemma => kernel_rfl) (by as_aux_lemma => kernel_rfl) (fun _ _ _ h => h) (Or.inl ⟨by kernel_rfl, ?_⟩) hS ?_
  rotate_left
  · intro wq hSw; have c0 := hSw.1.c0; have k0 := hSw.2.1.c0; have hl := HL.out _ hSw.2.2; go_simp
    first | done | with_reducible rfl
  refine wpAnyH_takeE (i := 1) (some 18) (v := ?_) rfl rfl (by as_aux_lemma => kernel_rfl) (by as_aux_lemma => kernel_rfl) (by as_aux_lemma => kernel_rfl) (fun _ _ _ h => h) (Or.inl ⟨by kernel_rfl, ?_⟩) hS ?_
  rotate_left
  · intro wq hSw; have c0 := hSw.1.c0; have k0 := hSw.2.1.c0; have hl := HL.out _ hSw.2.2; go_simp
    first | done | with_reducible rfl
  refine wpAnyH_takeE (i := 2) (some 19) (v := ?_) rfl rfl (by as_aux_lemma => kernel_rfl) (by as_aux_lemma => kernel_rfl) (by as_aux_lemma => kernel_rfl) (fun _ _ _ h => h) (Or.inl ⟨by kernel_rfl, ?_⟩) hS ?_
  rotate_left
  · intro wq hSw; have c0 := hSw.1.c0; have k0 := hSw.2.1.c0; have hl := HL.out _ hSw.2.2; go_simp
    first | done | with_reducible rfl
  refine wpAnyH_takeE (i := 3) (some 20) (v := ?_) rfl rfl (by as_aux_lemma => kernel_rfl) (by as_aux_lemma => kernel_rfl) (by as_aux_lemma => kernel_rfl) (fun _ _ _ h => h) (Or.inl ⟨by kernel_rfl, ?_⟩) hS ?_
  rotate_left
  · intro wq hSw; have c0 := hSw.1.c0; have k0 := hSw.2.1.c0; have hl := HL.out _ hSw.2.2; go_simp
    first | done | with_reducible rfl
  refine wpAnyH_takeE (i := 4) (some 21) (v := ?_) rfl rfl (by as_aux_lemma => kernel_rfl) (by as_aux_lemma => kernel_rfl) (by as_aux_lemma => kernel_rfl) (fun _ _ _ h => h) (Or.inl ⟨by kernel_rfl, ?_⟩) hS ?_
  rotate_left
  · intro wq hSw; have c0 := hSw.1.c0; have k0 := hSw.2.1.c0; have hl := HL.out _ hSw.2.2; go_simp
    first | done | with_reducible rfl
  refine wpAnyH_takeE (i := 5) (some 22) (v := ?_) rfl rfl (by as_aux_lemma => kernel_rfl) (by as_aux_lemma => kernel_rfl) (by as_aux_lemma => kernel_rfl) (fun _ _ _ h => h) (Or.inl ⟨by kernel_rfl, ?_⟩) hS ?_
  rotate_left
  · intro wq hSw; have c0 := hSw.1.c0; have k0 := hSw.2.1.c0; have hl := HL.out _ hSw.2.2; go_simp
    first | done | with_reducible rfl
  refine wpAnyH_takeE (i := 6) (some 23) (v := ?_) rfl rfl (by as_aux_lemma => kernel_rfl) (by as_aux_lemma => kernel_rfl) (by as_aux_lemma => kernel_rfl) (fun _ _ _ h => h) (Or.inl ⟨by kernel_rfl, ?_⟩) hS ?_
  rotate_left
  · intro wq hSw; have c0 := hSw.1.c0; have k0 := hSw.2.1.c0; have hl := HL.out _ hSw.2.2; go_simp
    first | done | with_reducible rfl
  refine wpAnyH_takeE (i := 7) (some 16) (v := ?_) rfl rfl (by as_aux_lemma => kernel_rfl) (by as_aux_lemma => kernel_rfl) (by as_aux_lemma => kernel_rfl) (fun _ _ _ h => h) (Or.inl ⟨by kernel_rfl, ?_⟩) hS ?_
  rotate_left
  · intro wq hSw; have c0 := hSw.1.c0; have k0 := hSw.2.1.c0; have hl := HL.out _ hSw.2.2; go_simp
    first | done | with_reducible rfl
  refine wpAnyH_takeE (i := 8) (some 24) (v := ?_) rfl rfl (by as_aux_lemma => kernel_rfl) (by as_aux_lemma => kernel_rfl) (by as_aux_lemma => kernel_rfl) (fun _ _ _ h => h) (Or.inl ⟨by kernel_rfl, ?_⟩) hS ?_
  rotate_left
  · intro wq hSw; have c0 := hSw.1.c0; have k0 := hSw.2.1.c0; have hl := HL.out _ hSw.2.2; go_simp
    first | done | with_reducible rfl
  refine wpAnyH_takeE (i := 9) (some 25) (v := ?_) rfl rfl (by as_aux_lemma => kernel_rfl) (by as_aux_lemma => kernel_rfl) (by as_aux_lemma => kernel_rfl) (fun _ _ _ h => h) (Or.inl ⟨by kernel_rfl, ?_⟩) hS ?_
  rotate_left
  · intro wq hSw; have c0 := hSw.1.c0; have k0 := hSw.2.1.c0; have hl := HL.out _ hSw.2.2; go_simp
    first | done | with_reducible rfl
  refine wpAnyH_ready (rs := [10]) (by as_aux_lemma => kernel_rfl) (by simp) ?_
  refine AllReadyH.cons rfl (fun K hK => ?_) AllReadyH.nil
  go_simp
  refine hK.out _ _ ?_ (fun hS => ?_)
  · exact ⟨hS.1.below ((Below.refl _ _).alloc (Nat.le_refl _) _) hS.1.lt, hS.2.1.on ((Below.refl _ _).alloc (Nat.le_refl _) _), hS.2.2.alloc hS.2.2.size _⟩
  clear hK K
  obtain ⟨h2, b2, d2⟩ := HD2.out
  have e3 := EBlk.new w2.drew zeroE
  have f0 := e3.f 0; have f1 := e3.f 1; have f2 := e3.f 2; have f3 := e3.f 3; have f4 := e3.f 4
  have x0 := e3.c0; have x1 := e3.c1; have x2 := e3.c2; have x3 := e3.c3; have x4 := e3.c4
  dsimp only [zeroE] at x0 x1 x2 x3 x4 f0 f1 f2 f3 f4
  have g3 := EBlk.new w2 (⟨ky, ty, oy, vy, uy⟩ : Ent)
  have d4 := (Below.refl w2.heap.size w2).alloc (Nat.le_refl _) (.cells #[.string ky, .int .i64 ty, .int .u16 oy, .string vy, .int .i64 uy] 36)
  have b4 := b2.on d4
  have h4 := h2.on d4
  have q4 := d2.trans (d4.mono d2.size)
  have HZ := Lib.hid (And.intro h4 (And.intro b4 (And.intro g3 q4)))
  clear h2 b2 d2 e3 g3 d4 b4 h4 q4 HD2
  refine wpAnyH_ready (rs := [11]) (by as_aux_lemma => kernel_rfl) (by simp) ?_
  refine AllReadyH.cons rfl (fun K hK => ?_) AllReadyH.nil
  go_simp
  refine hK.out _ _ ?_ (fun hS => ?_)
  · exact ⟨HZ.out.1.1, HZ.out.2.1, HZ.out.2.2.2.drew⟩
  clear hK K f0 f1 f2 f3 f4 x0 x1 x2 x3 x4
  refine wpAnyH_takeE (i := 12) (some 8) (v := ?_) rfl rfl (by as_aux_lemma => kernel_rfl) (by as_aux_lemma => kernel_rfl) (by as_aux_lemma => kernel_rfl) (fun _ _ _ h => h) (Or.inl ⟨by kernel_rfl, ?_⟩) hS ?_
  rotate_left
  · intro wq hSw; have c0 := hSw.1.c0; have k0 := hSw.2.1.c0; have hl := HL.out _ hSw.2.2; go_simp
    first | done | with_reducible rfl
  refine wpAnyH_done (by kernel_rfl) ?_ _
  clear hS
  obtain ⟨h4, b4, g4, q4⟩ := HZ.out
  clear HZ
  generalize w2.alloc (.cells #[.string ky, .int .i64 ty, .int .u16 oy, .string vy, .int .i64 uy] 36) = w4 at *
  replace h4 := h4.drew'
  replace b4 := b4.drew
  replace g4 := g4.drew
  replace q4 := q4.drew
  generalize w4.drew = w4 at *
  have c0 := b4.c0; have c1 := b4.c1; have c2 := b4.c2; have c3 := b4.c3; have c4 := b4.c4
  have y0 := g4.c0; have y1 := g4.c1; have y2 := g4.c2; have y3 := g4.c3; have y4 := g4.c4
  dsimp only at y0 y1 y2 y3 y4 c0 c1 c2 c3 c4
  have HQ := Lib.hid (And.intro h4 (And.intro b4 q4))
  clear h4 b4 g4 q4
  go_wp2_with (go_at_call 30; refine (HA.out _).mono ?_; rintro r w5 ⟨rfl, p5⟩; refine Hid.out ?_)
  refine Lib.hid ?_
  clear c0 c1 c2 c3 c4 y0 y1 y2 y3 y4
  obtain ⟨h4, b4, q4⟩ := HQ.out
  have h5 := h4.on p5
  have b5 := b4.on p5
  have q5 := q4.trans (p5.mono q4.size)
  clear h4 b4 q4 p5 HQ
  have HF := Lib.hid (And.intro h5 (gOfC q5 (some bm)))
  clear h5 b5 q5
  go_wp2
  exact bodyPost_ret (v := .tuple #[.bool false, .int .i64 0]) (by simp [results, Try.results22, go_sem]) rfl ⟨rfl, HF.out.1, HF.out.2⟩

set_option maxHeartbeats 8000000 in
set_option maxRecDepth 100000 in
theorem cPut_later (sb bm : Nat) (S : List Ent) (x : Ent) (w : World) (h : CAt w sb bm S) (hE : checkEn x = 0) (y : Ent) (hy : y ∈ S) (hk : y.key = x.key) (ha : aboveE x y = true) :
    Calls Try.prog 22 #[.pointer (some ⟨sb, 0, none⟩), .agg #[.string x.k, .int .i64 x.t, .int .u16 x.o, .string x.v, .int .i64 x.u]] w fun e w' => e = .returned (.tuple #[.bool true, .int .i64 0]) ∧ CAt w' sb bm (putC x S) ∧ w.grownBy w' (some bm) := by
  have HC0 := eCheck_any x (w.alloc (.cells #[.string x.k, .int .i64 x.t, .int .u16 x.o, .string x.v, .int .i64 x.u] 36))
  rw [hE] at HC0
  have hl0 : ∀ u, Below w.heap.size w u → (Instr.lookup 52 (.map (some bm)) (.string x.k) true).run Try.prog u = .ok (.tuple #[.agg #[.string y.k, .int .i64 y.t, .int .u16 y.o, .string y.v, .int .i64 y.u], .bool true]) u := fun u q => by
    have := (h.on q).2.1.look_yes hy (key_fits (h.2.2.1 y hy)) true
    have e : y.k = x.k := bytes_ext hk
    rw [e] at this
    exact this
  have hfin : ∀ u u', Below w.heap.size w u → CMap u' bm (putC x S) → u.grownBy u' (some bm) → CAt u' sb bm (putC x S) := fun u u' q hm hg =>
    (h.on q).turn hg hm (fun r hr => by rcases mem_putC.1 hr with rfl | hr; exact hE; exact h.2.2.1 r hr.1) (by have := h.2.2.2; rw [putC_old h.rising hy hk]; omega)
  have hkf := key_fits hE
  have HA := Lib.hid (fun u => eAbove_any x y u)
  rw [ha] at HA
  obtain ⟨ky, ty, oy, vy, uy⟩ := y
  obtain ⟨kx, tx, ox, vx, ux⟩ := x
  have b1 := EBlk.new w (⟨kx, tx, ox, vx, ux⟩ : Ent)
  have d1 := (Below.refl w.heap.size w).alloc (Nat.le_refl _) (.cells #[.string kx, .int .i64 tx, .int .u16 ox, .string vx, .int .i64 ux] 36)
  have HC := Lib.hid HC0
  have HH := Lib.hid (And.intro h (And.intro b1 d1))
  have HL := Lib.hid hl0
  have HF := Lib.hid hfin
  have HKF := Lib.hid hkf
  clear HC0 h b1 d1 hl0 hE hfin hkf hy hk ha
  dsimp only at HC HL HA
  go_enter Try.func22, Try.ntmps22
  go_wp2_with (go_at_call 34; refine HC.out.mono ?_; rintro r w2 ⟨rfl, q2⟩; refine Hid.out ?_)
  refine Lib.hid ?_
  obtain ⟨h, b1, d1⟩ := HH.out
  have d2 := d1.trans (q2.mono d1.size)
  have b2 := b1.on q2
  have h2 := h.on d2
  clear h b1 d1 q2 HC HH
  go_wp2_with fail
  refine wp_region_any (by kernel_rfl) ?_
  change wpAny _ _ _ _ _ _ _ (World.drew _)
  have hS : (fun w' : World => CmBlk w' sb bm ∧ EBlk w' w.heap.size (⟨kx, tx, ox, vx, ux⟩ : Ent) ∧ Below w.heap.size w w') w2.drew := ⟨h2.1, b2, d2.drew⟩
  refine wpAny_of_held (S := fun w' => CmBlk w' sb bm ∧ EBlk w' w.heap.size (⟨kx, tx, ox, vx, ux⟩ : Ent) ∧ Below w.heap.size w w') _ _ _ _ ?_
  have HD2 := Lib.hid (And.intro h2 (And.intro b2 d2))
  clear h2 b2 d2
  refine wpAnyH_takeE (i := 0) (some 17) (v := ?_) rfl rfl (by as_aux_lemma => kernel_rfl) (by as_aux_lemma => kernel_rfl) (by as_aux_lemma => kernel_rfl) (fun _ _ _ h => h) (Or.inl ⟨by kernel_rfl, ?_⟩) hS ?_
  rotate_left
  · intro wq hSw; have c0 := hSw.1.c0; have k0 := hSw.2.1.c0; have hl := HL.out _ hSw.2.2; go_simp
    first | done | with_reducible rfl
  refine wpAnyH_takeE (i := 1) (some 18) (v := ?_) rfl rfl (by as_aux_lemma => kernel_rfl) (by as_aux_lemma => kernel_rfl) (by as_aux_lemma => kernel_rfl) (fun _ _ _ h => h) (Or.inl ⟨by kernel_rfl, ?_⟩) hS ?_
  rotate_left
  · intro wq hSw; have c0 := hSw.1.c0; have k0 := hSw.2.1.c0; have hl := HL.out _ hSw.2.2; go_simp
    first | done | with_reducible rfl
  refine wpAnyH_takeE (i := 2) (some 19) (v := ?_) rfl rfl (by as_aux_lemma => kernel_rfl) (by as_aux_lemma => kernel_rfl) (by as_aux_lemma => kernel_rfl) (fun _ _ _ h => h) (Or.inl ⟨by kernel_rfl, ?_⟩) hS ?_
  rotate_left
  · intro wq hSw; have c0 := hSw.1.c0; have k0 := hSw.2.1.c0; have hl := HL.out _ hSw.2.2; go_simp
    first | done | with_reducible rfl
  refine wpAnyH_takeE (i := 3) (some 20) (v := ?_) rfl rfl (by as_aux_lemma => kernel_rfl) (by as_aux_lemma => kernel_rfl) (by as_aux_lemma => kernel_rfl) (fun _ _ _ h => h) (Or.inl ⟨by kernel_rfl, ?_⟩) hS ?_
  rotate_left
  · intro wq hSw; have c0 := hSw.1.c0; have k0 := hSw.2.1.c0; have hl := HL.out _ hSw.2.2; go_simp
    first | done | with_reducible rfl
  refine wpAnyH_takeE (i := 4) (some 21) (v := ?_) rfl rfl (by as_aux_lemma => kernel_rfl) (by as_aux_lemma => kernel_rfl) (by as_aux_lemma => kernel_rfl) (fun _ _ _ h => h) (Or.inl ⟨by kernel_rfl, ?_⟩) hS ?_
  rotate_left
  · intro wq hSw; have c0 := hSw.1.c0; have k0 := hSw.2.1.c0; have hl := HL.out _ hSw.2.2; go_simp
    first | done | with_reducible rfl
  refine wpAnyH_takeE (i := 5) (some 22) (v := ?_) rfl rfl (by as_aux_lemma => kernel_rfl) (by as_aux_lemma => kernel_rfl) (by as_aux_lemma => kernel_rfl) (fun _ _ _ h => h) (Or.inl ⟨by kernel_rfl, ?_⟩) hS ?_
  rotate_left
  · intro wq hSw; have c0 := hSw.1.c0; have k0 := hSw.2.1.c0; have hl := HL.out _ hSw.2.2; go_simp
    first | done | with_reducible rfl
  refine wpAnyH_takeE (i := 6) (some 23) (v := ?_) rfl rfl (by as_aux_lemma => kernel_rfl) (by as_aux_lemma => kernel_rfl) (by as_aux_lemma => kernel_rfl) (fun _ _ _ h => h) (Or.inl ⟨by kernel_rfl, ?_⟩) hS ?_
  rotate_left
  · intro wq hSw; have c0 := hSw.1.c0; have k0 := hSw.2.1.c0; have hl := HL.out _ hSw.2.2; go_simp
    first | done | with_reducible rfl
  refine wpAnyH_takeE (i := 7) (some 16) (v := ?_) rfl rfl (by as_aux_lemma => kernel_rfl) (by as_aux_lemma => kernel_rfl) (by as_aux_lemma => kernel_rfl) (fun _ _ _ h => h) (Or.inl ⟨by kernel_rfl, ?_⟩) hS ?_
  rotate_left
  · intro wq hSw; have c0 := hSw.1.c0; have k0 := hSw.2.1.c0; have hl := HL.out _ hSw.2.2; go_simp
    first | done | with_reducible rfl
  refine wpAnyH_takeE (i := 8) (some 24) (v := ?_) rfl rfl (by as_aux_lemma => kernel_rfl) (by as_aux_lemma => kernel_rfl) (by as_aux_lemma => kernel_rfl) (fun _ _ _ h => h) (Or.inl ⟨by kernel_rfl, ?_⟩) hS ?_
  rotate_left
  · intro wq hSw; have c0 := hSw.1.c0; have k0 := hSw.2.1.c0; have hl := HL.out _ hSw.2.2; go_simp
    first | done | with_reducible rfl
  refine wpAnyH_takeE (i := 9) (some 25) (v := ?_) rfl rfl (by as_aux_lemma => kernel_rfl) (by as_aux_lemma => kernel_rfl) (by as_aux_lemma => kernel_rfl) (fun _ _ _ h => h) (Or.inl ⟨by kernel_rfl, ?_⟩) hS ?_
  rotate_left
  · intro wq hSw; have c0 := hSw.1.c0; have k0 := hSw.2.1.c0; have hl := HL.out _ hSw.2.2; go_simp
    first | done | with_reducible rfl
  refine wpAnyH_ready (rs := [10]) (by as_aux_lemma => kernel_rfl) (by simp) ?_
  refine AllReadyH.cons rfl (fun K hK => ?_) AllReadyH.nil
  go_simp
  refine hK.out _ _ ?_ (fun hS => ?_)
  · exact ⟨hS.1.below ((Below.refl _ _).alloc (Nat.le_refl _) _) hS.1.lt, hS.2.1.on ((Below.refl _ _).alloc (Nat.le_refl _) _), hS.2.2.alloc hS.2.2.size _⟩
  clear hK K
  obtain ⟨h2, b2, d2⟩ := HD2.out
  have e3 := EBlk.new w2.drew zeroE
  have f0 := e3.f 0; have f1 := e3.f 1; have f2 := e3.f 2; have f3 := e3.f 3; have f4 := e3.f 4
  have x0 := e3.c0; have x1 := e3.c1; have x2 := e3.c2; have x3 := e3.c3; have x4 := e3.c4
  dsimp only [zeroE] at x0 x1 x2 x3 x4 f0 f1 f2 f3 f4
  have g3 := EBlk.new w2 (⟨ky, ty, oy, vy, uy⟩ : Ent)
  have d4 := (Below.refl w2.heap.size w2).alloc (Nat.le_refl _) (.cells #[.string ky, .int .i64 ty, .int .u16 oy, .string vy, .int .i64 uy] 36)
  have b4 := b2.on d4
  have h4 := h2.on d4
  have q4 := d2.trans (d4.mono d2.size)
  have HZ := Lib.hid (And.intro h4 (And.intro b4 (And.intro g3 q4)))
  clear h2 b2 d2 e3 g3 d4 b4 h4 q4 HD2
  refine wpAnyH_ready (rs := [11]) (by as_aux_lemma => kernel_rfl) (by simp) ?_
  refine AllReadyH.cons rfl (fun K hK => ?_) AllReadyH.nil
  go_simp
  refine hK.out _ _ ?_ (fun hS => ?_)
  · exact ⟨HZ.out.1.1, HZ.out.2.1, HZ.out.2.2.2.drew⟩
  clear hK K f0 f1 f2 f3 f4 x0 x1 x2 x3 x4
  refine wpAnyH_takeE (i := 12) (some 8) (v := ?_) rfl rfl (by as_aux_lemma => kernel_rfl) (by as_aux_lemma => kernel_rfl) (by as_aux_lemma => kernel_rfl) (fun _ _ _ h => h) (Or.inl ⟨by kernel_rfl, ?_⟩) hS ?_
  rotate_left
  · intro wq hSw; have c0 := hSw.1.c0; have k0 := hSw.2.1.c0; have hl := HL.out _ hSw.2.2; go_simp
    first | done | with_reducible rfl
  refine wpAnyH_done (by kernel_rfl) ?_ _
  clear hS
  obtain ⟨h4, b4, g4, q4⟩ := HZ.out
  clear HZ
  generalize w2.alloc (.cells #[.string ky, .int .i64 ty, .int .u16 oy, .string vy, .int .i64 uy] 36) = w4 at *
  replace h4 := h4.drew'
  replace b4 := b4.drew
  replace g4 := g4.drew
  replace q4 := q4.drew
  generalize w4.drew = w4 at *
  have c0 := b4.c0; have c1 := b4.c1; have c2 := b4.c2; have c3 := b4.c3; have c4 := b4.c4
  have y0 := g4.c0; have y1 := g4.c1; have y2 := g4.c2; have y3 := g4.c3; have y4 := g4.c4
  dsimp only at y0 y1 y2 y3 y4 c0 c1 c2 c3 c4
  have HQ := Lib.hid (And.intro h4 (And.intro b4 q4))
  clear h4 b4 g4 q4
  go_wp2_with (go_at_call 30; refine (HA.out _).mono ?_; rintro r w5 ⟨rfl, p5⟩; refine Hid.out ?_)
  refine Lib.hid ?_
  clear c0 c1 c2 c3 c4 y0 y1 y2 y3 y4
  obtain ⟨h4, b4, q4⟩ := HQ.out
  have h5 := h4.on p5
  have b5 := b4.on p5
  have q5 := q4.trans (p5.mono q4.size)
  clear h4 b4 q4 p5 HQ
  go_wp2_with fail
  obtain ⟨w6, hrun, hm6, hg6⟩ := (h5.drew').2.1.put (⟨kx, tx, ox, vx, ux⟩ : Ent) HKF.out (by have := h5.2.2.2; unfold maxLen; omega)
  dsimp only [Ent.val] at hrun
  have hnb : w.heap.size ≠ bm := fun e => b5.notmap (S := S) (by rw [e]; exact h5.2.1)
  refine wp_region_any (by kernel_rfl) ?_
  change wpAny _ _ _ _ _ _ _ (World.drew _)
  have hS : (fun w' : World => CmBlk w' sb bm ∧ EBlk w' w.heap.size (⟨kx, tx, ox, vx, ux⟩ : Ent)) w5.drew := ⟨h5.1, b5⟩
  refine wpAny_of_held (S := fun w' => CmBlk w' sb bm ∧ EBlk w' w.heap.size (⟨kx, tx, ox, vx, ux⟩ : Ent)) _ _ _ _ ?_
  refine wpAnyH_takeE (i := 0) (some 43) (v := ?_) rfl rfl (by as_aux_lemma => kernel_rfl) (by as_aux_lemma => kernel_rfl) (by as_aux_lemma => kernel_rfl) (fun _ _ _ h => h) (Or.inl ⟨by kernel_rfl, ?_⟩) hS ?_
  rotate_left
  · intro wq hSw; have c0 := hSw.1.c0; have k0 := hSw.2.c0; have k1 := hSw.2.c1; have k2 := hSw.2.c2; have k3 := hSw.2.c3; have k4 := hSw.2.c4; go_simp
    first | done | with_reducible rfl
  refine wpAnyH_takeE (i := 1) (some 44) (v := ?_) rfl rfl (by as_aux_lemma => kernel_rfl) (by as_aux_lemma => kernel_rfl) (by as_aux_lemma => kernel_rfl) (fun _ _ _ h => h) (Or.inl ⟨by kernel_rfl, ?_⟩) hS ?_
  rotate_left
  · intro wq hSw; have c0 := hSw.1.c0; have k0 := hSw.2.c0; have k1 := hSw.2.c1; have k2 := hSw.2.c2; have k3 := hSw.2.c3; have k4 := hSw.2.c4; go_simp
    first | done | with_reducible rfl
  refine wpAnyH_takeE (i := 2) (some 45) (v := ?_) rfl rfl (by as_aux_lemma => kernel_rfl) (by as_aux_lemma => kernel_rfl) (by as_aux_lemma => kernel_rfl) (fun _ _ _ h => h) (Or.inl ⟨by kernel_rfl, ?_⟩) hS ?_
  rotate_left
  · intro wq hSw; have c0 := hSw.1.c0; have k0 := hSw.2.c0; have k1 := hSw.2.c1; have k2 := hSw.2.c2; have k3 := hSw.2.c3; have k4 := hSw.2.c4; go_simp
    first | done | with_reducible rfl
  refine wpAnyH_takeE (i := 3) (some 46) (v := ?_) rfl rfl (by as_aux_lemma => kernel_rfl) (by as_aux_lemma => kernel_rfl) (by as_aux_lemma => kernel_rfl) (fun _ _ _ h => h) (Or.inl ⟨by kernel_rfl, ?_⟩) hS ?_
  rotate_left
  · intro wq hSw; have c0 := hSw.1.c0; have k0 := hSw.2.c0; have k1 := hSw.2.c1; have k2 := hSw.2.c2; have k3 := hSw.2.c3; have k4 := hSw.2.c4; go_simp
    first | done | with_reducible rfl
  refine wpAnyH_takeE (i := 4) (some 47) (v := ?_) rfl rfl (by as_aux_lemma => kernel_rfl) (by as_aux_lemma => kernel_rfl) (by as_aux_lemma => kernel_rfl) (fun _ _ _ h => h) (Or.inl ⟨by kernel_rfl, ?_⟩) hS ?_
  rotate_left
  · intro wq hSw; have c0 := hSw.1.c0; have k0 := hSw.2.c0; have k1 := hSw.2.c1; have k2 := hSw.2.c2; have k3 := hSw.2.c3; have k4 := hSw.2.c4; go_simp
    first | done | with_reducible rfl
  refine wpAnyH_takeE (i := 5) (some 48) (v := ?_) rfl rfl (by as_aux_lemma => kernel_rfl) (by as_aux_lemma => kernel_rfl) (by as_aux_lemma => kernel_rfl) (fun _ _ _ h => h) (Or.inl ⟨by kernel_rfl, ?_⟩) hS ?_
  rotate_left
  · intro wq hSw; have c0 := hSw.1.c0; have k0 := hSw.2.c0; have k1 := hSw.2.c1; have k2 := hSw.2.c2; have k3 := hSw.2.c3; have k4 := hSw.2.c4; go_simp
    first | done | with_reducible rfl
  refine wpAnyH_takeE (i := 6) (some 49) (v := ?_) rfl rfl (by as_aux_lemma => kernel_rfl) (by as_aux_lemma => kernel_rfl) (by as_aux_lemma => kernel_rfl) (fun _ _ _ h => h) (Or.inl ⟨by kernel_rfl, ?_⟩) hS ?_
  rotate_left
  · intro wq hSw; have c0 := hSw.1.c0; have k0 := hSw.2.c0; have k1 := hSw.2.c1; have k2 := hSw.2.c2; have k3 := hSw.2.c3; have k4 := hSw.2.c4; go_simp
    first | done | with_reducible rfl
  refine wpAnyH_ready (rs := [7]) (by as_aux_lemma => kernel_rfl) (by simp) ?_
  refine AllReadyH.cons rfl (fun K hK => ?_) AllReadyH.nil
  go_simp
  refine hK.out _ _ ?_ (fun hS => ?_)
  · exact ⟨hS.1.kept hg6 (fun e => h5.ne (Option.some.inj e)), (hg6.block _ hS.2.lt (fun e => hnb (Option.some.inj e))).trans hS.2⟩
  clear hK K
  refine wpAnyH_done (by kernel_rfl) ?_ _
  have HG := Lib.hid (And.intro (HF.out _ _ q5.drew hm6 hg6) ((gOfC q5.drew (some bm)).andThen hg6 (fun j hj => by cases hj; exact Or.inr rfl)))
  clear hS h5 b5 q5 hm6 hg6
  go_wp2
  exact bodyPost_ret (v := .tuple #[.bool true, .int .i64 0]) (by simp [results, Try.results22, go_sem]) rfl ⟨rfl, HG.out.1, HG.out.2⟩

/-- Put of package crdt. -/
theorem cPut_any (sb bm : Nat) (S : List Ent) (x : Ent) (w : World) (h : CAt w sb bm S) :
    Calls Try.prog 22 #[.pointer (some ⟨sb, 0, none⟩), .agg #[.string x.k, .int .i64 x.t, .int .u16 x.o, .string x.v, .int .i64 x.u]] w fun e w' => e = .returned (.tuple #[.bool (cputB S x), .int .i64 (cputE S x)]) ∧ CAt w' sb bm (cputS S x) ∧ w.grownBy w' (some bm) := by
  by_cases hE : checkEn x = 0
  · cases hg : gotC S x.key with
    | none =>
      have hno := gotC_none hg
      by_cases hn : 256 ≤ S.length
      · have e1 : cputE S x = 11 := by unfold cputE; rw [if_neg (by simp [hE]), if_pos ⟨by rw [hg]; rfl, hn⟩]
        have e2 : cputB S x = false := by unfold cputB; rw [e1]; rfl
        have e3 : cputS S x = S := by unfold cputS; rw [e2]; rfl
        rw [e1, e2, e3]
        exact cPut_full sb bm S x w h hE hno hn
      · have e1 : cputE S x = 0 := by unfold cputE; rw [if_neg (by simp [hE]), if_neg (fun h => hn h.2)]
        have e2 : cputB S x = true := by unfold cputB; rw [e1, hg]; rfl
        have e3 : cputS S x = putC x S := by unfold cputS; rw [e2]; rfl
        rw [e1, e2, e3]
        exact cPut_new sb bm S x w h hE hno hn
    | some y =>
      obtain ⟨hy, hk⟩ := gotC_mem hg
      have e1 : cputE S x = 0 := by unfold cputE; rw [if_neg (by simp [hE]), if_neg (fun h => by have := h.1; rw [hg] at this; cases this)]
      have e2 : cputB S x = aboveE x y := by unfold cputB; rw [e1, hg]; simp
      cases ha : aboveE x y with
      | false =>
        have e3 : cputS S x = S := by unfold cputS; rw [e2, ha]; rfl
        rw [e1, e2, e3, ha]
        exact cPut_stays sb bm S x w h hE y hy hk ha
      | true =>
        have e3 : cputS S x = putC x S := by unfold cputS; rw [e2, ha]; rfl
        rw [e1, e2, e3, ha]
        exact cPut_later sb bm S x w h hE y hy hk ha
  · have e1 : cputE S x = checkEn x := by unfold cputE; rw [if_pos hE]
    have e2 : cputB S x = false := by unfold cputB; rw [e1]; simp [hE]
    have e3 : cputS S x = S := by unfold cputS; rw [e2]; rfl
    rw [e1, e2, e3]
    exact cPut_err sb bm S x w h hE

end Go.Proofs.Ytkbonifbnbdbkab
