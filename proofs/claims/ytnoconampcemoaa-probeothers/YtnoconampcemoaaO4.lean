/-
  Who is there besides, who is drawn of them, what goes out: others, drawn, out of package probe.
-/
import Derived.Test.YtnoconampcemoaaO3
import Derived.Test.YtnoconampcemoaaB8
import Derived.Test.YtnoconampcemoaaDShelf
import Derived.BigCall
namespace Go.Proofs.Ytnoconampcemoaa
open Go Go.RowKit

/-- A row of nodes, in a block of the call's own. -/
def RowU (w : World) (B : Nat) (a : Option Addr) (n c : Nat) (L : List Int) : Prop :=
  n = L.length ∧ n ≤ c ∧ n ≤ 64 ∧ ((a = none ∧ n = 0 ∧ c = 0) ∨ ∃ g, a = some ⟨g, 0, none⟩ ∧ B ≤ g ∧ g < w.heap.size ∧ Go.Sort.Holds (Value.int .u16) w g 0 L.toArray)
theorem RowU.of {w : World} {B : Nat} {a : Option Addr} {n c : Nat} {L : List Int} (h : OwnU w B (.slice a n c) L) (hl : L.length ≤ 64) : RowU w B a n c L := by
  obtain ⟨h1, h2⟩ := h
  rcases h2 with ⟨e, hz⟩ | ⟨g, cap, cur, e, hg, hh, hcap, -, -, hx⟩
  · simp only [Value.slice.injEq] at e
    obtain ⟨rfl, rfl, rfl⟩ := e
    exact ⟨by omega, Nat.le_refl _, by omega, .inl ⟨rfl, rfl, rfl⟩⟩
  · simp only [Value.slice.injEq] at e
    obtain ⟨rfl, rfl, rfl⟩ := e
    refine ⟨rfl, hcap, hl, .inr ⟨g, rfl, hg, ltE hh, fun j hj => ?_⟩⟩
    have hj2 : j < L.length := by simpa using hj
    refine ⟨?_, by simp [World.frozen?, hh]⟩
    rw [Nat.zero_add, cellE hh]
    have e1 : (cellsU L)[j]? = some (.int .u16 L[j]) := by unfold cellsU; rw [List.getElem?_map, List.getElem?_eq_getElem hj2]; rfl
    rw [← hx] at e1
    rw [List.getElem?_take] at e1
    split at e1
    · rw [← Array.getElem?_toList, e1]
      have : L.toArray[j]! = L[j] := by simp [hj2]
      rw [this]
    · cases e1
theorem RowU.on {w u : World} {B : Nat} {a : Option Addr} {n c : Nat} {L : List Int} (h : RowU w B a n c L) (hb : Below w.heap.size w u) : RowU u B a n c L := by
  obtain ⟨h1, h2, h3, h4⟩ := h
  refine ⟨h1, h2, h3, ?_⟩
  rcases h4 with h4 | ⟨g, e, hg, hl, hh⟩
  · exact .inl h4
  · exact .inr ⟨g, e, hg, Nat.lt_of_lt_of_le hl hb.size, fun j hj => ⟨(hb.cell (p := ⟨g, 0 + j, none⟩) hl).trans (hh j hj).1, (hb.frozen (p := ⟨g, 0 + j, none⟩) hl).trans (hh j hj).2⟩⟩
theorem putRow_heap {α : Type} [Inhabited α] (enc : α → Value) (w : World) (g off : Nat) (d : Array α) (k : Nat) (h : k ≠ g) : (Go.Sort.putRow enc w g off d).heap[k]? = w.heap[k]? := by
  unfold Go.Sort.putRow Go.Sort.mapBlock
  simp only [Array.getElem?_modify]
  rw [if_neg (by omega)]
theorem putRow_below {α : Type} [Inhabited α] (enc : α → Value) (w : World) (q g off N : Nat) (d : Array α) (hN : N ≤ g) : Below N w (Go.Sort.putRow enc (Go.Sort.ahead w q) g off d) :=
  ⟨rfl, rfl, rfl, by rw [Go.Sort.size_putRow]; exact Nat.le_refl _, fun k hk => putRow_heap enc (Go.Sort.ahead w q) g off d k (by omega)⟩
/-- slices.DeleteFunc of nothing. -/
theorem idxU_nil (f : Value) (w : World) : Calls Try.prog 60 #[.slice none 0 0, f] w fun e w' => e = .returned (.int .i64 (-1)) ∧ w' = w := by
  go_enter Try.func60, Try.ntmps60
  go_wp2
  refine wp_loop_rounds 1 ?_
  rw [rounds_succ]
  go_wp2
  go_ret
  exact ⟨rfl, rfl⟩
theorem delU_nil (f : Value) (w : World) : Calls Try.prog 53 #[.slice none 0 0, f] w fun e w' => e = .returned (.slice none 0 0) ∧ w' = w := by
  have H := Lib.hid (idxU_nil f w)
  go_enter Try.func53, Try.ntmps53
  go_wp2_with (go_at_call 60; refine H.out.mono ?_; rintro e w1 ⟨rfl, rfl⟩)
  go_ret
  exact ⟨rfl, rfl⟩
set_option maxRecDepth 20000 in
theorem delU_any (fq : Nat) (eg : ∀ args w, (callFunc fq args).run Try.prog w = .ok (.enter fq args) w) (B b ci : Nat) (s : Int)
    (hg : ∀ W x, W.cell? ⟨B, 0, none⟩ = some (.pointer (some ⟨b, 0, none⟩)) → W.cell? ⟨b, ci, none⟩ = some (.int .u16 s) → FnGives Try.prog fq #[.pointer (some ⟨B, 0, none⟩)] #[.int .u16 x] (.bool (x == s)) W)
    (w : World) (h1 : w.cell? ⟨B, 0, none⟩ = some (.pointer (some ⟨b, 0, none⟩))) (h2 : w.cell? ⟨b, ci, none⟩ = some (.int .u16 s)) (N : Nat) (hB : B < N) (hb : b < N) (hN : N ≤ w.heap.size)
    (a : Option Addr) (n c : Nat) (L : List Int) (hR : RowU w N a n c L) :
    Calls Try.prog 53 #[.slice a n c, .func (.func fq) #[] #[.pointer (some ⟨B, 0, none⟩)]] w fun e w' => ∃ n', e = .returned (.slice a n' c) ∧ RowU w' N a n' c (L.filter (fun x => !(x == s))) ∧ Below N w w' := by
  obtain ⟨hn, hc, h64, ⟨rfl, rfl, rfl⟩ | ⟨g, rfl, hgN, hgl, hH⟩⟩ := hR
  · obtain rfl : L = [] := List.eq_nil_of_length_eq_zero (by omega)
    refine (delU_nil _ w).mono ?_
    rintro e w' ⟨rfl, rfl⟩
    exact ⟨0, rfl, ⟨rfl, Nat.le_refl _, by omega, .inl ⟨rfl, rfl, rfl⟩⟩, Below.refl _ _⟩
  · have hp : PredAt Try.prog fq #[.pointer (some ⟨B, 0, none⟩)] (Value.int .u16) (fun x => x == s) w := fun W x hW =>
      hg W x ((hW.cell (p := ⟨B, 0, none⟩) (by show B < _; omega)).trans h1) ((hW.cell (p := ⟨b, ci, none⟩) (by show b < _; omega)).trans h2)
    have hso : ∀ (m : Nat) (os : Array Obj) (dk : Array Int) (k i : Nat), k < N → (sortWorld (Value.int .u16) w g 0 m dk os).cell? ⟨k, i, none⟩ = w.cell? ⟨k, i, none⟩ := fun m os dk k i hk => by
      unfold sortWorld
      rw [Go.Sort.cell?_grow _ _ _ (by show k < (Go.Sort.putRow _ _ _ _ _).heap.size; rw [Go.Sort.size_putRow]; show k < w.heap.size; omega), Go.Sort.cell?_putRow_other _ _ g 0 _ _ (Or.inl (by show k ≠ g; omega))]
      rfl
    have hpo : PredOver Try.prog fq #[.pointer (some ⟨B, 0, none⟩)] (Value.int .u16) (fun x => x == s) g 0 L.toArray.size w := fun m os dk x _ =>
      hg _ x ((hso m os dk B 0 hB).trans h1) ((hso m os dk b ci hb).trans h2)
    have hs0 : L.toArray.size = n := by simp [hn]
    have hcon := AnyE.slices_DeleteFunc Try.lDelU (Value.int .u16) (fun _ => rfl) (fun x => x == s) fq #[.pointer (some ⟨B, 0, none⟩)] eg 0 Try.zeroValue22 g 0 c L.toArray w hp hpo hH (by omega) (by omega)
    rw [hs0] at hcon
    change Calls Try.prog 53 _ _ _ at hcon
    refine hcon.mono ?_
    rintro e w' ⟨rfl, q, rfl⟩
    have hfl : (L.filter (fun x => !(x == s))).length ≤ n := by rw [hn]; exact List.length_filter_le _ _
    refine ⟨_, rfl, ⟨rfl, by show (List.filter _ _).length ≤ c; simp only [] at hfl ⊢; omega, by show (List.filter _ _).length ≤ 64; simp only [] at hfl ⊢; omega, .inr ⟨g, rfl, hgN, ?_, ?_⟩⟩, putRow_below _ _ _ _ _ _ _ hgN⟩
    · rw [Go.Sort.size_putRow]; exact hgl
    · have hH2 := Go.Sort.holds_putRow (Value.int .u16) (Go.Sort.ahead w q) g 0 L.toArray ((L.filter (fun x => !(x == s))) ++ List.replicate (n - (L.filter (fun x => !(x == s))).length) 0).toArray (Go.Sort.holds_ahead _ _ _ _ _ _ hH) (by simp; omega)
      intro j hj
      have hj2 : j < (L.filter (fun x => !(x == s))).length := by simpa using hj
      have := hH2 j (by simp; omega)
      have e1 : ((L.filter (fun x => !(x == s))) ++ List.replicate (n - (L.filter (fun x => !(x == s))).length) 0).toArray[j]! = (L.filter (fun x => !(x == s))).toArray[j]! := by
        rw [getElem!_pos _ j (by simp; omega), getElem!_pos _ j hj]
        simp only [List.getElem_toArray]
        rw [List.getElem_append_left hj2]
      rw [e1] at this
      exact this
set_option maxRecDepth 20000 in
theorem pbothersX_any (b B : Nat) (s : Int) (W : World) (x : Int) (h1 : W.cell? ⟨B, 0, none⟩ = some (.pointer (some ⟨b, 0, none⟩))) (h2 : W.cell? ⟨b, 0, none⟩ = some (.int .u16 s)) :
    FnGives Try.prog 62 #[.pointer (some ⟨B, 0, none⟩)] #[.int .u16 x] (.bool (x == s)) W := by
  show Calls Try.prog 62 #[.int .u16 x, .pointer (some ⟨B, 0, none⟩)] W _
  go_enter Try.func62, Try.ntmps62
  go_wp2
  all_goals (go_ret; exact ⟨by simp_all, 0, rfl⟩)
set_option maxRecDepth 20000 in
theorem pbaskHelpX_any (b B : Nat) (s : Int) (W : World) (x : Int) (h1 : W.cell? ⟨B, 0, none⟩ = some (.pointer (some ⟨b, 0, none⟩))) (h2 : W.cell? ⟨b, 3, none⟩ = some (.int .u16 s)) :
    FnGives Try.prog 55 #[.pointer (some ⟨B, 0, none⟩)] #[.int .u16 x] (.bool (x == s)) W := by
  show Calls Try.prog 55 #[.int .u16 x, .pointer (some ⟨B, 0, none⟩)] W _
  go_enter Try.func55, Try.ntmps55
  go_wp2
  all_goals (go_ret; exact ⟨by simp_all, 0, rfl⟩)
def UPost (L : List Int) (w : World) (e : Ending) (w' : World) : Prop := ∃ a n c, e = .returned (.slice a n c) ∧ RowU w' w.heap.size a n c L ∧ Below w.heap.size w w'
set_option maxRecDepth 20000 in
set_option maxHeartbeats 1000000 in
theorem pbothers_any (b d : Nat) (P : Pb) (T : Tb) (w : World) (hP : PbBlk w b P) (hT : TabBlk w d T) :
    Calls Try.prog 54 #[.pointer (some ⟨b, 0, none⟩), .pointer (some ⟨d, 0, none⟩)] w (UPost (othersL P T) w) := by
  have eg : ∀ args w, (callFunc 62 args).run Try.prog w = .ok (.enter 62 args) w := enters_of Try.func62 (by kernel_rfl) rfl
  have hB0 := (Below.refl w.heap.size w).alloc (Nat.le_refl _) (.cells #[.pointer (some ⟨b, 0, none⟩)] 28)
  have hT1 := hT.on hB0
  have hP1 := hP.on hB0
  have hb1 : (w.alloc (.cells #[.pointer (some ⟨b, 0, none⟩)] 28)).heap[w.heap.size]? = some (.cells #[.pointer (some ⟨b, 0, none⟩)] 28 (0, 0)) := newE w _
  have hsz : (w.alloc (.cells #[.pointer (some ⟨b, 0, none⟩)] 28)).heap.size = w.heap.size + 1 := by simp
  have hbl := hP.lt
  have HTh := Lib.hid (bThere_any d T _ hT1)
  have HF : Hid (∀ a n c, OwnU (w.alloc (.cells #[.pointer (some ⟨b, 0, none⟩)] 28)) 0 (.slice a n c) [] → True) := Lib.hid (fun _ _ _ _ => trivial)
  clear HF
  have HD : Hid (∀ u a n c, RowU u (w.heap.size + 1) a n c (thereB T) → Below (w.heap.size + 1) (w.alloc (.cells #[.pointer (some ⟨b, 0, none⟩)] 28)) u →
      Calls Try.prog 53 #[.slice a n c, .func (.func 62) #[] #[.pointer (some ⟨w.heap.size, 0, none⟩)]] u fun e w' => ∃ n', e = .returned (.slice a n' c) ∧ RowU w' (w.heap.size + 1) a n' c (othersL P T) ∧ Below (w.heap.size + 1) u w') :=
    Lib.hid (fun u a n c hR hu => delU_any 62 eg w.heap.size b 0 (P.s : Int) (fun W x q1 q2 => pbothersX_any b w.heap.size (P.s : Int) W x q1 q2) u
      ((hu.cell (p := ⟨w.heap.size, 0, none⟩) (Nat.lt_succ_self _)).trans (cellE hb1)) ((hu.cell (p := ⟨b, 0, none⟩) (by show b < _; omega)).trans hP1.at.c0) (w.heap.size + 1) (Nat.lt_succ_self _) (by omega) (by have := hu.size; omega) a n c (thereB T) hR)
  have HB0 := Lib.hid hB0
  have HSZ := Lib.hid hsz
  have HLen : Hid ((thereB T).length ≤ 64) := Lib.hid (by have := thereL_len (memsB T); have := memsB_len T; unfold thereB; omega)
  clear hP hT hB0 hT1 hP1 hb1 hsz eg
  generalize othersL P T = L2 at *
  generalize thereB T = L1 at *
  go_enter Try.func54, Try.ntmps54
  go_wp2_with (go_at_call 61; refine HTh.out.mono ?_; rintro e w1 ⟨a1, n1, c1, rfl, hn1, ho1, q1⟩; clear hn1; replace ho1 := Lib.hid ho1; replace q1 := Lib.hid q1; refine Hid.out ?_)
  refine Lib.hid ?_
  have HR1 : Hid (RowU w1 (w.heap.size + 1) a1 n1 c1 L1) := Lib.hid (RowU.of (by have := ho1.out; rwa [HSZ.out] at this) HLen.out)
  have HQ1 : Hid (Below (w.heap.size + 1) (w.alloc (.cells #[.pointer (some ⟨b, 0, none⟩)] 28)) w1) := Lib.hid (by have := q1.out; rwa [HSZ.out] at this)
  have HD1 := Lib.hid (HD.out w1 a1 n1 c1 HR1.out HQ1.out)
  clear HD HTh HR1 ho1
  go_wp2_with (go_at_call 53; refine HD1.out.mono ?_; rintro e w2 ⟨n2, rfl, hr2, q2⟩; replace hr2 := Lib.hid hr2; replace q2 := Lib.hid q2; refine Hid.out ?_)
  refine Lib.hid ?_
  go_wp2
  go_ret
  have hbe : Below w.heap.size w w2 := HB0.out.trans ((HQ1.out.trans q2.out).mono (Nat.le_succ _))
  refine ⟨a1, n2, c1, rfl, ?_, hbe⟩
  obtain ⟨z1, z2, z3, z4⟩ := hr2.out
  exact ⟨z1, z2, z3, z4.imp id (fun ⟨g, e, hg, h⟩ => ⟨g, e, by omega, h⟩)⟩

/-- Who is drawn. -/
def drawnR (L : List Int) (d : Nat) : Int × Bool := match drawnL L d with | none => (0, false) | some x => (x, true)
set_option maxRecDepth 20000 in
set_option maxHeartbeats 1000000 in
theorem pbdrawn_any (a : Option Addr) (n c N : Nat) (L : List Int) (d : Nat) (hd : d < 4294967296) (w : World) (hR : RowU w N a n c L) (x : Int) (r : Bool) (hx : drawnR L d = (x, r)) :
    Calls Try.prog 56 #[.slice a n c, .int .u32 (d : Int)] w fun e w' => e = .returned (.tuple #[.int .u16 x, .bool r]) ∧ w' = w := by
  obtain ⟨hn, hc, h64, hr⟩ := hR
  by_cases h0 : n = 0
  · obtain rfl : L = [] := List.eq_nil_of_length_eq_zero (by omega)
    subst h0
    simp only [drawnR, drawnL, List.getElem?_nil, Prod.mk.injEq] at hx
    obtain ⟨rfl, rfl⟩ := hx
    clear hr hd hc h64 hn
    go_enter Try.func56, Try.ntmps56
    go_wp2
    go_ret2
    exact ⟨rfl, rfl⟩
  · rcases hr with ⟨-, hz, -⟩ | ⟨g, rfl, -, -, hH⟩
    · omega
    have hk : d % n < L.length := by rw [← hn]; exact Nat.mod_lt _ (by omega)
    have hcell := (hH (d % n) (by simpa using hk)).1
    rw [getElem!_pos _ _ (by simpa using hk), List.getElem_toArray, Nat.zero_add] at hcell
    obtain ⟨rfl, rfl⟩ : L[d % n] = x ∧ r = true := by
      unfold drawnR drawnL at hx
      rw [← hn, List.getElem?_eq_getElem hk] at hx
      simpa [eq_comm] using hx
    have k0 : ((n : Int) == 0) = false := by rw [beq_eq_false_iff_ne]; omega
    have k1 : (n : Int) % 4294967296 = (n : Int) := by omega
    have k2 : ((d % n : Nat) : Int) < (n : Int) := by have := Nat.mod_lt d (show n > 0 by omega); omega
    have k3 : ((d : Int)).tmod (n : Int) = ((d % n : Nat) : Int) := by rw [Int.tmod_eq_emod_of_nonneg (by omega)]; exact (Int.natCast_emod d n).symm
    have k4 : (n : Int) ≠ 0 := by omega
    have k5 : ((d % n : Nat) : Int) % 4294967296 = ((d % n : Nat) : Int) := by have := Nat.mod_lt d (show n > 0 by omega); omega
    generalize L[d % n] = x at *
    generalize d % n = i at *
    clear hH hk hx hd hc h64 hn h0
    go_enter Try.func56, Try.ntmps56
    go_wp2
    go_ret2
    exact ⟨rfl, rfl⟩
/-- The cells of what goes out. -/
def encO (o : Ou) : List Value := [.int .u16 o.to, .int .u8 o.kind, .int .u16 o.frm, .int .u16 o.about, .int .i64 o.seq, .slice none 0 0, .slice none 0 0]
/-- What goes out, in a block of the call's own: at most one. -/
def OutsAt (w : World) (B : Nat) (a : Option Addr) (n c : Nat) (L : List Ou) : Prop :=
  (L = [] ∧ a = none ∧ n = 0 ∧ c = 0) ∨ ∃ o g, L = [o] ∧ a = some ⟨g, 0, none⟩ ∧ n = 1 ∧ c = 1 ∧ B ≤ g ∧ w.heap[g]? = some (.cells ⟨encO o⟩ 68 (0, 0))
theorem OutsAt.on {w u : World} {B : Nat} {a : Option Addr} {n c : Nat} {L : List Ou} (h : OutsAt w B a n c L) (hb : Below w.heap.size w u) : OutsAt u B a n c L := by
  rcases h with h | ⟨o, g, h1, h2, h3, h4, h5, h6⟩
  · exact .inl h
  · exact .inr ⟨o, g, h1, h2, h3, h4, h5, (hb.block g (ltE h6)).trans h6⟩
theorem OutsAt.kept {w u : World} {B b : Nat} {a : Option Addr} {n c : Nat} {L : List Ou} (h : OutsAt w B a n c L) (hg : w.grownBy u (some b)) (hb : b < B) : OutsAt u B a n c L := by
  rcases h with h | ⟨o, g, h1, h2, h3, h4, h5, h6⟩
  · exact .inl h
  · exact .inr ⟨o, g, h1, h2, h3, h4, h5, (hg.block g (ltE h6) (by simp; omega)).trans h6⟩
theorem OutsAt.nil (w : World) (B : Nat) : OutsAt w B none 0 0 [] := .inl ⟨rfl, rfl, rfl, rfl⟩
def OPost (L : List Ou) (w : World) (e : Ending) (w' : World) : Prop := ∃ a n c, e = .returned (.slice a n c) ∧ OutsAt w' w.heap.size a n c L ∧ Below w.heap.size w w'
set_option maxRecDepth 20000 in
set_option maxHeartbeats 4000000 in
theorem pbout_any (b : Nat) (P : Pb) (to kind : Int) (w : World) (hP : PbBlk w b P) :
    Calls Try.prog 57 #[.pointer (some ⟨b, 0, none⟩), .int .u16 to, .int .u8 kind] w (OPost [⟨to, kind, P.s, P.qn, P.qs⟩] w) := by
  have HC : Hid (∀ u, Below w.heap.size w u → PbAt u b P) := Lib.hid (fun u hu => (hP.on hu).at)
  have HE := Lib.hid (show (w.drew.alloc (.cells ⟨encO ⟨to, kind, P.s, P.qn, P.qs⟩⟩ 68)).heap[w.heap.size]? = some (.cells ⟨encO ⟨to, kind, P.s, P.qn, P.qs⟩⟩ 68 (0, 0)) from newE w.drew _)
  have HB := Lib.hid ((Below.refl w.heap.size w).drew.alloc (Nat.le_refl _) (.cells ⟨encO ⟨to, kind, P.s, P.qn, P.qs⟩⟩ 68))
  clear hP
  obtain ⟨ps, hps⟩ : ∃ z, (P.s : Int) = z := ⟨_, rfl⟩
  obtain ⟨pq, hpq⟩ : ∃ z, (P.qn : Int) = z := ⟨_, rfl⟩
  obtain ⟨pz, hpz⟩ : ∃ z, P.qs = z := ⟨_, rfl⟩
  replace HC : Hid (∀ u, Below w.heap.size w u → u.cell? ⟨b, 0, none⟩ = some (.int .u16 ps) ∧ u.cell? ⟨b, 3, none⟩ = some (.int .u16 pq) ∧ u.cell? ⟨b, 4, none⟩ = some (.int .i64 pz)) :=
    Lib.hid (fun u hu => by have h := HC.out u hu; rw [← hps, ← hpq, ← hpz]; exact ⟨h.c0, h.c3, h.c4⟩)
  rw [hps, hpq, hpz] at HE HB ⊢
  clear hps hpq hpz
  go_enter Try.func57, Try.ntmps57
  go_wp2_with fail
  refine wp_region_any (by kernel_rfl) ?_
  change wpAny _ _ _ _ _ _ _ (World.drew _)
  have hS : (fun w' : World => Below w.heap.size w w') w.drew := (Below.refl _ w).drew
  refine wpAny_of_held (S := fun w' => Below w.heap.size w w') _ _ _ _ ?_
  refine wpAnyH_takeE (i := 0) (some 7) (v := ?_) rfl rfl (by as_aux_lemma => kernel_rfl) (by as_aux_lemma => kernel_rfl) (by as_aux_lemma => kernel_rfl) (fun _ _ _ h => h) (Or.inl ⟨by kernel_rfl, ?_⟩) hS ?_
  rotate_left
  · intro w hSw; obtain ⟨a0, a3, a4⟩ := HC.out _ hSw; go_simp
    first | done | with_reducible rfl
  refine wpAnyH_takeE (i := 1) (some 8) (v := ?_) rfl rfl (by as_aux_lemma => kernel_rfl) (by as_aux_lemma => kernel_rfl) (by as_aux_lemma => kernel_rfl) (fun _ _ _ h => h) (Or.inl ⟨by kernel_rfl, ?_⟩) hS ?_
  rotate_left
  · intro w hSw; obtain ⟨a0, a3, a4⟩ := HC.out _ hSw; go_simp
    first | done | with_reducible rfl
  refine wpAnyH_takeE (i := 2) (some 9) (v := ?_) rfl rfl (by as_aux_lemma => kernel_rfl) (by as_aux_lemma => kernel_rfl) (by as_aux_lemma => kernel_rfl) (fun _ _ _ h => h) (Or.inl ⟨by kernel_rfl, ?_⟩) hS ?_
  rotate_left
  · intro w hSw; obtain ⟨a0, a3, a4⟩ := HC.out _ hSw; go_simp
    first | done | with_reducible rfl
  refine wpAnyH_takeE (i := 3) (some 10) (v := ?_) rfl rfl (by as_aux_lemma => kernel_rfl) (by as_aux_lemma => kernel_rfl) (by as_aux_lemma => kernel_rfl) (fun _ _ _ h => h) (Or.inl ⟨by kernel_rfl, ?_⟩) hS ?_
  rotate_left
  · intro w hSw; obtain ⟨a0, a3, a4⟩ := HC.out _ hSw; go_simp
    first | done | with_reducible rfl
  refine wpAnyH_takeE (i := 4) (some 11) (v := ?_) rfl rfl (by as_aux_lemma => kernel_rfl) (by as_aux_lemma => kernel_rfl) (by as_aux_lemma => kernel_rfl) (fun _ _ _ h => h) (Or.inl ⟨by kernel_rfl, ?_⟩) hS ?_
  rotate_left
  · intro w hSw; obtain ⟨a0, a3, a4⟩ := HC.out _ hSw; go_simp
    first | done | with_reducible rfl
  refine wpAnyH_takeE (i := 5) (some 12) (v := ?_) rfl rfl (by as_aux_lemma => kernel_rfl) (by as_aux_lemma => kernel_rfl) (by as_aux_lemma => kernel_rfl) (fun _ _ _ h => h) (Or.inl ⟨by kernel_rfl, ?_⟩) hS ?_
  rotate_left
  · intro w hSw; obtain ⟨a0, a3, a4⟩ := HC.out _ hSw; go_simp
    first | done | with_reducible rfl
  refine wpAnyH_takeE (i := 6) (some 13) (v := ?_) rfl rfl (by as_aux_lemma => kernel_rfl) (by as_aux_lemma => kernel_rfl) (by as_aux_lemma => kernel_rfl) (fun _ _ _ h => h) (Or.inl ⟨by kernel_rfl, ?_⟩) hS ?_
  rotate_left
  · intro w hSw; obtain ⟨a0, a3, a4⟩ := HC.out _ hSw; go_simp
    first | done | with_reducible rfl
  refine wpAnyH_takeE (i := 7) (some 14) (v := ?_) rfl rfl (by as_aux_lemma => kernel_rfl) (by as_aux_lemma => kernel_rfl) (by as_aux_lemma => kernel_rfl) (fun _ _ _ h => h) (Or.inl ⟨by kernel_rfl, ?_⟩) hS ?_
  rotate_left
  · intro w hSw; obtain ⟨a0, a3, a4⟩ := HC.out _ hSw; go_simp
    first | done | with_reducible rfl
  refine wpAnyH_takeE (i := 8) (some 15) (v := ?_) rfl rfl (by as_aux_lemma => kernel_rfl) (by as_aux_lemma => kernel_rfl) (by as_aux_lemma => kernel_rfl) (fun _ _ _ h => h) (Or.inl ⟨by kernel_rfl, ?_⟩) hS ?_
  rotate_left
  · intro w hSw; obtain ⟨a0, a3, a4⟩ := HC.out _ hSw; go_simp
    first | done | with_reducible rfl
  refine wpAnyH_takeE (i := 9) (some 16) (v := ?_) rfl rfl (by as_aux_lemma => kernel_rfl) (by as_aux_lemma => kernel_rfl) (by as_aux_lemma => kernel_rfl) (fun _ _ _ h => h) (Or.inl ⟨by kernel_rfl, ?_⟩) hS ?_
  rotate_left
  · intro w hSw; obtain ⟨a0, a3, a4⟩ := HC.out _ hSw; go_simp
    first | done | with_reducible rfl
  refine wpAnyH_takeE (i := 10) (some 17) (v := ?_) rfl rfl (by as_aux_lemma => kernel_rfl) (by as_aux_lemma => kernel_rfl) (by as_aux_lemma => kernel_rfl) (fun _ _ _ h => h) (Or.inl ⟨by kernel_rfl, ?_⟩) hS ?_
  rotate_left
  · intro w hSw; obtain ⟨a0, a3, a4⟩ := HC.out _ hSw; go_simp
    first | done | with_reducible rfl
  refine wpAnyH_takeE (i := 11) (some 18) (v := ?_) rfl rfl (by as_aux_lemma => kernel_rfl) (by as_aux_lemma => kernel_rfl) (by as_aux_lemma => kernel_rfl) (fun _ _ _ h => h) (Or.inl ⟨by kernel_rfl, ?_⟩) hS ?_
  rotate_left
  · intro w hSw; obtain ⟨a0, a3, a4⟩ := HC.out _ hSw; go_simp
    first | done | with_reducible rfl
  refine wpAnyH_takeE (i := 12) (some 19) (v := ?_) rfl rfl (by as_aux_lemma => kernel_rfl) (by as_aux_lemma => kernel_rfl) (by as_aux_lemma => kernel_rfl) (fun _ _ _ h => h) (Or.inl ⟨by kernel_rfl, ?_⟩) hS ?_
  rotate_left
  · intro w hSw; obtain ⟨a0, a3, a4⟩ := HC.out _ hSw; go_simp
    first | done | with_reducible rfl
  refine wpAnyH_takeE (i := 13) (some 20) (v := ?_) rfl rfl (by as_aux_lemma => kernel_rfl) (by as_aux_lemma => kernel_rfl) (by as_aux_lemma => kernel_rfl) (fun _ _ _ h => h) (Or.inl ⟨by kernel_rfl, ?_⟩) hS ?_
  rotate_left
  · intro w hSw; obtain ⟨a0, a3, a4⟩ := HC.out _ hSw; go_simp
    first | done | with_reducible rfl
  refine wpAnyH_takeE (i := 14) (some 21) (v := ?_) rfl rfl (by as_aux_lemma => kernel_rfl) (by as_aux_lemma => kernel_rfl) (by as_aux_lemma => kernel_rfl) (fun _ _ _ h => h) (Or.inl ⟨by kernel_rfl, ?_⟩) hS ?_
  rotate_left
  · intro w hSw; obtain ⟨a0, a3, a4⟩ := HC.out _ hSw; go_simp
    first | done | with_reducible rfl
  refine wpAnyH_takeE (i := 15) (some 22) (v := ?_) rfl rfl (by as_aux_lemma => kernel_rfl) (by as_aux_lemma => kernel_rfl) (by as_aux_lemma => kernel_rfl) (fun _ _ _ h => h) (Or.inl ⟨by kernel_rfl, ?_⟩) hS ?_
  rotate_left
  · intro w hSw; obtain ⟨a0, a3, a4⟩ := HC.out _ hSw; go_simp
    first | done | with_reducible rfl
  refine wpAnyH_takeE (i := 16) (some 23) (v := ?_) rfl rfl (by as_aux_lemma => kernel_rfl) (by as_aux_lemma => kernel_rfl) (by as_aux_lemma => kernel_rfl) (fun _ _ _ h => h) (Or.inl ⟨by kernel_rfl, ?_⟩) hS ?_
  rotate_left
  · intro w hSw; obtain ⟨a0, a3, a4⟩ := HC.out _ hSw; go_simp
    first | done | with_reducible rfl
  refine wpAnyH_takeE (i := 17) (some 24) (v := ?_) rfl rfl (by as_aux_lemma => kernel_rfl) (by as_aux_lemma => kernel_rfl) (by as_aux_lemma => kernel_rfl) (fun _ _ _ h => h) (Or.inl ⟨by kernel_rfl, ?_⟩) hS ?_
  rotate_left
  · intro w hSw; obtain ⟨a0, a3, a4⟩ := HC.out _ hSw; go_simp
    first | done | with_reducible rfl
  refine wpAnyH_ready (rs := [18]) (by as_aux_lemma => kernel_rfl) (by simp) ?_
  refine AllReadyH.cons rfl (fun K hK => ?_) AllReadyH.nil
  go_simp
  go_wp2_with fail
  refine hK.out _ _ ?_ (fun hS => ?_)
  · exact ⟨HB.out.os, HB.out.tape, HB.out.output, HB.out.size, HB.out.block⟩
  clear hK K
  refine wpAnyH_takeE (i := 19) (some 6) (v := ?_) rfl rfl (by as_aux_lemma => kernel_rfl) (by as_aux_lemma => kernel_rfl) (by as_aux_lemma => kernel_rfl) (fun _ _ _ h => h) (Or.inl ⟨by kernel_rfl, ?_⟩) hS ?_
  rotate_left
  · intro w hSw; obtain ⟨a0, a3, a4⟩ := HC.out _ hSw; go_simp
    first | done | with_reducible rfl
  refine wpAnyH_done (by kernel_rfl) ?_ _
  go_simp
  go_wp2
  go_ret
  exact ⟨_, _, _, rfl, .inr ⟨_, _, rfl, rfl, rfl, rfl, Nat.le_refl _, HE.out⟩, ⟨HB.out.os, HB.out.tape, HB.out.output, HB.out.size, HB.out.block⟩⟩

end Go.Proofs.Ytnoconampcemoaa
