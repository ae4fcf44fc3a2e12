/-
  How a node sees the others, as plain functions: what is news, what is said, lists by rising nodes; what does not hang on the order.
-/
import Derived.Test.YtnoconampcemoaaPMem
namespace Go.Proofs.Ytnoconampcemoaa

/-- How a node sees the others: what stands in each place; the node itself. -/
structure Tb where
  f : Nat → Option Mem
  s : Nat

/-- Whether a member counts more than another one. -/
def aboveM (a b : Mem) : Bool := decide (b.i < a.i) || (a.i == b.i && decide (b.s < a.s))
/-- Whether a member may be. -/
def mayM (m : Mem) : Bool := decide (m.n < 64) && (decide (m.s ≤ 2) && (decide (0 ≤ m.i) && decide (m.i ≤ 1073741824)))
/-- What a node is that hears this of itself. -/
def denyM (m : Mem) : Mem := if m.s = 0 ∨ m.i = 1073741824 then m else ⟨m.n, 0, m.i + 1⟩
def Tb.put (T : Tb) (m : Mem) : Tb := ⟨fun k => if k = m.n.toNat then some m else T.f k, T.s⟩
/-- Whether a member is news. -/
def newsB (T : Tb) (m : Mem) : Bool := mayM m && ((T.f m.n.toNat).elim true (fun o => aboveM m o))
def saidM (T : Tb) (m : Mem) : Mem := if m.n = (T.s : Int) then denyM m else m
def hearB (T : Tb) (m : Mem) : Tb := if newsB T m = true then T.put (saidM T m) else T
def tellM (T : Tb) (m : Mem) : List Mem := if newsB T m = true then [saidM T m] else []
def mergeB (T : Tb) : List Mem → Tb
  | [] => T
  | m :: l => mergeB (hearB T m) l
def mergeM (T : Tb) : List Mem → List Mem
  | [] => []
  | m :: l => tellM T m ++ mergeM (hearB T m) l
def newB (s : Nat) : Tb := ⟨fun k => if k = s then some ⟨s, 0, 0⟩ else none, s⟩
def memsO (f : Nat → Option Mem) (a c : Nat) : List Mem := (List.range' a c).filterMap f
/-- All members, by rising nodes. -/
def memsB (T : Tb) : List Mem := memsO T.f 0 64
def thereL (l : List Mem) : List Int := (l.filter (fun m => !(m.s == 2))).map (·.n)
def thereB (T : Tb) : List Int := thereL (memsB T)
def posL (s : Nat) (l : List Int) : Nat := l.countP (fun n => decide (n < (s : Int)))
def posB (T : Tb) : Nat := posL T.s (thereB T)

/-- What a table is that may be. -/
structure TbOk (T : Tb) : Prop where
  s : T.s < 64
  me : ∃ m, T.f T.s = some m
  ok : ∀ k m, T.f k = some m → m.n = (k : Int) ∧ 0 ≤ m.s ∧ mayM m = true
  al : ∀ m, T.f T.s = some m → m.s = 0 ∨ m.i = 1073741824

theorem mayM_iff (m : Mem) : mayM m = true ↔ m.n < 64 ∧ m.s ≤ 2 ∧ 0 ≤ m.i ∧ m.i ≤ 1073741824 := by simp [mayM]
theorem aboveM_iff (a b : Mem) : aboveM a b = true ↔ b.i < a.i ∨ (a.i = b.i ∧ b.s < a.s) := by simp [aboveM]
theorem aboveM_not (a b : Mem) : aboveM a b = false ↔ a.i < b.i ∨ (a.i = b.i ∧ a.s ≤ b.s) := by
  rw [← Bool.not_eq_true, aboveM_iff]; omega
theorem newB_ok {s : Nat} (h : s < 64) : TbOk (newB s) :=
  ⟨h, ⟨⟨s, 0, 0⟩, by simp [newB]⟩, (fun k m e => by
    simp only [newB] at e
    split at e
    · rename_i hk; subst hk; obtain rfl := Option.some.inj e; exact ⟨rfl, Int.le_refl _, by rw [mayM_iff]; simp only; omega⟩
    · cases e), fun m e => by
    simp only [newB, if_true] at e
    obtain rfl := Option.some.inj e
    exact .inl rfl⟩
theorem TbOk.lt {T : Tb} (h : TbOk T) {k : Nat} {m : Mem} (e : T.f k = some m) : k < 64 := by
  have := h.ok k m e
  have h2 := ((mayM_iff m).1 this.2.2).1
  omega
theorem TbOk.none {T : Tb} (h : TbOk T) {k : Nat} (hk : 64 ≤ k) : T.f k = none := by
  cases e : T.f k with
  | none => rfl
  | some m => have := h.lt e; omega
theorem denyM_n (m : Mem) : (denyM m).n = m.n := by unfold denyM; split <;> rfl
theorem denyM_may {m : Mem} (h : mayM m = true) : mayM (denyM m) = true := by
  have h1 := (mayM_iff m).1 h
  unfold denyM
  split
  · exact h
  · rename_i hn
    rw [mayM_iff]
    simp only
    have : m.i ≠ 1073741824 := fun e => hn (.inr e)
    omega
theorem denyM_s {m : Mem} (h : 0 ≤ m.s) : 0 ≤ (denyM m).s := by unfold denyM; split <;> simp_all
theorem denyM_al (m : Mem) : (denyM m).s = 0 ∨ (denyM m).i = 1073741824 := by
  unfold denyM
  split
  · assumption
  · exact .inl rfl
theorem denyM_above {m o : Mem} (h : aboveM m o = true) : aboveM (denyM m) o = true := by
  rw [aboveM_iff] at h ⊢
  unfold denyM
  split
  · exact h
  · simp only; omega
theorem denyM_le (m : Mem) : aboveM m (denyM m) = false := by
  rw [aboveM_not]
  unfold denyM
  split
  · omega
  · simp only; omega
theorem saidM_n (T : Tb) (m : Mem) : (saidM T m).n = m.n := by unfold saidM; split <;> simp [denyM_n]
theorem saidM_above {T : Tb} {m o : Mem} (h : aboveM m o = true) : aboveM (saidM T m) o = true := by
  unfold saidM; split
  · exact denyM_above h
  · exact h
theorem saidM_le (T : Tb) (m : Mem) : aboveM m (saidM T m) = false := by
  unfold saidM; split
  · exact denyM_le m
  · rw [aboveM_not]; omega
theorem saidM_may {T : Tb} {m : Mem} (h : mayM m = true) : mayM (saidM T m) = true := by
  unfold saidM; split
  · exact denyM_may h
  · exact h
theorem saidM_s {T : Tb} {m : Mem} (h : 0 ≤ m.s) : 0 ≤ (saidM T m).s := by
  unfold saidM; split
  · exact denyM_s h
  · exact h
theorem newsB_may {T : Tb} {m : Mem} (h : newsB T m = true) : mayM m = true := by
  unfold newsB at h
  simp at h
  exact h.1
theorem hearB_ok {T : Tb} (h : TbOk T) {m : Mem} (h0 : 0 ≤ m.n) (hs : 0 ≤ m.s) : TbOk (hearB T m) := by
  unfold hearB
  split
  · rename_i hn
    have hm := newsB_may hn
    have hlt := ((mayM_iff m).1 hm).1
    refine ⟨h.s, ?_, ?_, ?_⟩
    · show ∃ x, (if T.s = (saidM T m).n.toNat then some (saidM T m) else T.f T.s) = some x
      split
      · exact ⟨_, rfl⟩
      · exact h.me
    · intro k x e
      simp only [Tb.put] at e
      split at e
      · rename_i hk
        obtain rfl := Option.some.inj e
        rw [saidM_n] at hk ⊢
        exact ⟨by omega, saidM_s hs, saidM_may hm⟩
      · exact h.ok k x e
    · intro x e
      simp only [Tb.put] at e
      split at e
      · rename_i hk
        obtain rfl := Option.some.inj e
        rw [saidM_n] at hk
        have he : m.n = (T.s : Int) := by omega
        unfold saidM
        rw [if_pos he]
        exact denyM_al m
      · exact h.al x e
  · exact h
theorem hearB_s (T : Tb) (m : Mem) : (hearB T m).s = T.s := by unfold hearB; split <;> rfl
theorem mergeB_ok {T : Tb} (h : TbOk T) : ∀ {l : List Mem}, (∀ m ∈ l, 0 ≤ m.n ∧ 0 ≤ m.s) → TbOk (mergeB T l)
  | [], _ => h
  | m :: l, hl => mergeB_ok (T := hearB T m) (hearB_ok h (hl m (by simp)).1 (hl m (by simp)).2) (l := l) (fun x hx => hl x (by simp [hx]))
theorem mergeB_s (T : Tb) : ∀ (l : List Mem), (mergeB T l).s = T.s
  | [] => rfl
  | m :: l => (mergeB_s (hearB T m) l).trans (hearB_s T m)
theorem mergeB_snoc (T : Tb) : ∀ (l : List Mem) (m : Mem), mergeB T (l ++ [m]) = hearB (mergeB T l) m
  | [], _ => rfl
  | x :: l, m => mergeB_snoc (hearB T x) l m
theorem mergeM_snoc (T : Tb) : ∀ (l : List Mem) (m : Mem), mergeM T (l ++ [m]) = mergeM T l ++ tellM (mergeB T l) m
  | [], m => by simp [mergeM, mergeB]
  | x :: l, m => by
    simp only [List.cons_append, mergeM, mergeB, List.append_assoc]
    rw [mergeM_snoc (hearB T x) l m]
theorem mergeB_append (T : Tb) : ∀ (l r : List Mem), mergeB T (l ++ r) = mergeB (mergeB T l) r
  | [], _ => rfl
  | x :: l, r => mergeB_append (hearB T x) l r
theorem tellM_len (T : Tb) (m : Mem) : (tellM T m).length ≤ 1 := by unfold tellM; split <;> simp
theorem mergeM_len (T : Tb) : ∀ (l : List Mem), (mergeM T l).length ≤ l.length
  | [] => by simp [mergeM]
  | x :: l => by
    have := mergeM_len (hearB T x) l
    have := tellM_len T x
    simp only [mergeM, List.length_append, List.length_cons]
    omega

/-! Lists. -/
theorem memsO_succ (f : Nat → Option Mem) (a c : Nat) : memsO f a (c + 1) = (f a).toList ++ memsO f (a + 1) c := by
  unfold memsO
  rw [List.range'_succ, List.filterMap_cons]
  cases f a <;> rfl
theorem memsO_snoc (f : Nat → Option Mem) (a c : Nat) : memsO f a (c + 1) = memsO f a c ++ (f (a + c)).toList := by
  unfold memsO
  rw [List.range'_concat, List.filterMap_append]
  simp only [Nat.one_mul]
  rw [List.filterMap_cons]
  cases f (a + c) <;> rfl
theorem memsO_len (f : Nat → Option Mem) (a c : Nat) : (memsO f a c).length ≤ c := by
  have := List.length_filterMap_le f (List.range' a c)
  simpa [memsO] using this
theorem memsB_len (T : Tb) : (memsB T).length ≤ 64 := memsO_len _ _ _
theorem mem_memsO {f : Nat → Option Mem} {a c : Nat} {m : Mem} : m ∈ memsO f a c ↔ ∃ k, a ≤ k ∧ k < a + c ∧ f k = some m := by
  unfold memsO
  rw [List.mem_filterMap]
  constructor
  · rintro ⟨k, hk, e⟩
    rw [List.mem_range'_1] at hk
    exact ⟨k, hk.1, hk.2, e⟩
  · rintro ⟨k, h1, h2, e⟩
    exact ⟨k, List.mem_range'_1.2 ⟨h1, h2⟩, e⟩
theorem mem_memsB {T : Tb} (h : TbOk T) {m : Mem} : m ∈ memsB T ↔ T.f m.n.toNat = some m := by
  unfold memsB
  rw [mem_memsO]
  constructor
  · rintro ⟨k, -, -, e⟩
    have := (h.ok k m e).1
    rw [this]
    exact e
  · intro e
    exact ⟨_, Nat.zero_le _, by have := h.lt e; omega, e⟩
/-- A member put into its place of a list. -/
def setGo (m : Mem) : List Mem → Bool → List Mem
  | [], d => if d = true then [] else [m]
  | x :: r, d => (if d = false ∧ m.n ≤ x.n then [m] else []) ++ ((if x.n = m.n then [] else [x]) ++ setGo m r (d || decide (m.n ≤ x.n)))
theorem setGo_done {f : Nat → Option Mem} {m : Mem} (hf : ∀ k x, f k = some x → x.n = (k : Int)) : ∀ (c a : Nat), m.n < (a : Int) → setGo m (memsO f a c) true = memsO f a c
  | 0, a, _ => by simp [memsO, setGo]
  | c + 1, a, ha => by
    rw [memsO_succ]
    cases e : f a with
    | none => exact setGo_done hf c (a + 1) (by omega)
    | some x =>
      have hx := hf a x e
      simp only [Option.toList, List.cons_append, List.nil_append, setGo]
      rw [if_neg (by simp), if_neg (by omega), Bool.true_or, setGo_done hf c (a + 1) (by omega)]
      rfl
theorem setGo_past {f : Nat → Option Mem} {m : Mem} (hf : ∀ k x, f k = some x → x.n = (k : Int)) : ∀ (c a : Nat), m.n < (a : Int) → setGo m (memsO f a c) false = m :: memsO f a c
  | 0, a, _ => by simp [memsO, setGo]
  | c + 1, a, ha => by
    rw [memsO_succ]
    cases e : f a with
    | none => exact setGo_past hf c (a + 1) (by omega)
    | some x =>
      have hx := hf a x e
      simp only [Option.toList, List.cons_append, List.nil_append, setGo]
      rw [if_pos (by constructor <;> first | trivial | omega), if_neg (by omega), Bool.false_or, decide_eq_true (by omega), setGo_done hf c (a + 1) (by omega)]
      rfl
theorem setGo_put {f : Nat → Option Mem} {m : Mem} (hf : ∀ k x, f k = some x → x.n = (k : Int)) (h0 : 0 ≤ m.n) : ∀ (c a : Nat), (a : Int) ≤ m.n → m.n < ((a + c : Nat) : Int) →
    setGo m (memsO f a c) false = memsO (fun k => if k = m.n.toNat then some m else f k) a c
  | 0, a, h1, h2 => by omega
  | c + 1, a, h1, h2 => by
    rw [memsO_succ, memsO_succ]
    by_cases ha : (a : Int) = m.n
    · have hrest : memsO (fun k => if k = m.n.toNat then some m else f k) (a + 1) c = memsO f (a + 1) c := by
        unfold memsO
        have hc : ∀ (L : List Nat), (∀ k ∈ L, a + 1 ≤ k) → List.filterMap (fun k => if k = m.n.toNat then some m else f k) L = List.filterMap f L := by
          intro L
          induction L with
          | nil => intro _; rfl
          | cons y L ih =>
            intro hL
            have hy := hL y (by simp)
            rw [List.filterMap_cons, List.filterMap_cons, if_neg (by omega), ih (fun k hk => hL k (by simp [hk]))]
        exact hc _ fun k hk => (List.mem_range'_1.1 hk).1
      rw [hrest, if_pos (by omega)]
      cases e : f a with
      | none => exact setGo_past hf c (a + 1) (by omega)
      | some x =>
        have hx := hf a x e
        simp only [Option.toList, List.cons_append, List.nil_append, setGo]
        rw [if_pos (by constructor <;> first | trivial | omega), if_pos (by omega), Bool.false_or, decide_eq_true (by omega), setGo_done hf c (a + 1) (by omega)]
        rfl
    · rw [if_neg (by omega)]
      cases e : f a with
      | none => exact setGo_put hf h0 c (a + 1) (by omega) (by omega)
      | some x =>
        have hx := hf a x e
        simp only [Option.toList, List.cons_append, List.nil_append, setGo]
        rw [if_neg (by omega), if_neg (by omega), Bool.false_or, decide_eq_false (by omega), setGo_put hf h0 c (a + 1) (by omega) (by omega)]
        rfl
theorem setGo_mems {T : Tb} (h : TbOk T) {m : Mem} (h0 : 0 ≤ m.n) (hm : m.n < 64) : setGo m (memsB T) false = memsB (T.put m) :=
  setGo_put (fun k x e => (h.ok k x e).1) h0 64 0 (by omega) (by omega)
/-- What a list has of a node. -/
def getL (n : Int) (l : List Mem) : Option Mem := l.find? (fun m => m.n == n)
theorem getL_memsO {f : Nat → Option Mem} (hf : ∀ k x, f k = some x → x.n = (k : Int)) (n : Nat) : ∀ (c a : Nat), getL n (memsO f a c) = if a ≤ n ∧ n < a + c then f n else none
  | 0, a => by rw [if_neg (by omega)]; rfl
  | c + 1, a => by
    rw [memsO_succ]
    have ih := getL_memsO hf n c (a + 1)
    by_cases ha : a = n
    · subst ha
      rw [if_pos (by omega)]
      cases e : f a with
      | none =>
        simp only [Option.toList, List.nil_append]
        rw [ih, if_neg (by omega)]
      | some x =>
        have hx := hf a x e
        simp [Option.toList, getL, hx]
    · cases e : f a with
      | none =>
        simp only [Option.toList, List.nil_append]
        rw [ih]
        by_cases h1 : a + 1 ≤ n ∧ n < a + 1 + c
        · rw [if_pos h1, if_pos (by omega)]
        · rw [if_neg h1, if_neg (by omega)]
      | some x =>
        have hx := hf a x e
        have hne : ¬ x.n = (n : Int) := by omega
        have : getL n (x :: memsO f (a + 1) c) = getL n (memsO f (a + 1) c) := by
          unfold getL
          rw [List.find?_cons_of_neg (by simpa using hne)]
        simp only [Option.toList, List.cons_append, List.nil_append]
        rw [this, ih]
        by_cases h1 : a + 1 ≤ n ∧ n < a + 1 + c
        · rw [if_pos h1, if_pos (by omega)]
        · rw [if_neg h1, if_neg (by omega)]
theorem getL_mems {T : Tb} (h : TbOk T) (n : Nat) : getL n (memsB T) = T.f n := by
  unfold memsB
  rw [getL_memsO (fun k x e => (h.ok k x e).1)]
  by_cases hn : n < 64
  · rw [if_pos (by omega)]
  · rw [if_neg (by omega), h.none (by omega)]

/-! What is heard never goes below. -/
theorem hearB_rise {T : Tb} (m : Mem) {k : Nat} {o : Mem} (e : T.f k = some o) : ∃ x, (hearB T m).f k = some x ∧ aboveM o x = false := by
  unfold hearB
  split
  · rename_i hn
    by_cases hk : k = m.n.toNat
    · refine ⟨saidM T m, by show (if k = (saidM T m).n.toNat then _ else _) = _; rw [saidM_n, if_pos hk], ?_⟩
      have h2 : aboveM m o = true := by
        unfold newsB at hn
        rw [← hk, e] at hn
        simp at hn
        exact hn.2
      have h3 := saidM_above (T := T) h2
      rw [aboveM_iff] at h3
      rw [aboveM_not]
      omega
    · refine ⟨o, by show (if k = (saidM T m).n.toNat then _ else _) = _; rw [saidM_n, if_neg hk]; exact e, by rw [aboveM_not]; omega⟩
  · exact ⟨o, e, by rw [aboveM_not]; omega⟩
theorem hearB_heard {T : Tb} (m : Mem) (hm : mayM m = true) : ∃ x, (hearB T m).f m.n.toNat = some x ∧ aboveM m x = false := by
  unfold hearB
  split
  · exact ⟨saidM T m, by show (if m.n.toNat = (saidM T m).n.toNat then _ else _) = _; rw [saidM_n, if_pos rfl], saidM_le T m⟩
  · rename_i hn
    unfold newsB at hn
    rw [hm, Bool.true_and] at hn
    cases e : T.f m.n.toNat with
    | none => rw [e] at hn; exact absurd rfl hn
    | some o =>
      rw [e] at hn
      exact ⟨o, rfl, by simpa using hn⟩

/-! The order does not matter for others. -/
/-- The highest of some members. -/
def BestM (S : Mem → Prop) : Option Mem → Prop
  | none => ∀ m, ¬ S m
  | some x => S x ∧ ∀ m, S m → aboveM m x = false
theorem Mem.same {a b : Mem} (hn : a.n = b.n) (h1 : aboveM a b = false) (h2 : aboveM b a = false) : a = b := by
  rw [aboveM_not] at h1 h2
  obtain ⟨an, a2, ai⟩ := a
  obtain ⟨bn, bs, bi⟩ := b
  simp only at hn h1 h2
  have : a2 = bs := by omega
  have : ai = bi := by omega
  simp_all
theorem BestM.uniq {S : Mem → Prop} {x y : Option Mem} (hS : ∀ a b, S a → S b → a.n = b.n) (hx : BestM S x) (hy : BestM S y) : x = y := by
  cases x with
  | none =>
    cases y with
    | none => rfl
    | some b => exact absurd hy.1 (hx b)
  | some a =>
    cases y with
    | none => exact absurd hx.1 (hy a)
    | some b => rw [Mem.same (hS a b hx.1 hy.1) (hy.2 a hx.1) (hx.2 b hy.1)]
theorem BestM.congr {S R : Mem → Prop} {x : Option Mem} (h : ∀ m, S m ↔ R m) (hx : BestM S x) : BestM R x := by
  cases x with
  | none => exact fun m hm => hx m ((h m).2 hm)
  | some a => exact ⟨(h a).1 hx.1, fun m hm => hx.2 m ((h m).2 hm)⟩
/-- What was heard of a node. -/
def HeardOf (l : List Mem) (k : Nat) (m : Mem) : Prop := m ∈ l ∧ mayM m = true ∧ m.n = (k : Int)
theorem best_hear {T : Tb} {l : List Mem} {k : Nat} {m : Mem} (h0 : 0 ≤ m.n) (hs : m.n ≠ (T.s : Int)) (h : BestM (HeardOf l k) (T.f k)) : BestM (HeardOf (l ++ [m]) k) ((hearB T m).f k) := by
  have hsaid : saidM T m = m := by unfold saidM; rw [if_neg hs]
  unfold hearB
  by_cases hn : newsB T m = true
  · rw [if_pos hn, hsaid]
    by_cases hk : k = m.n.toNat
    · show BestM _ (if k = m.n.toNat then some m else T.f k)
      rw [if_pos hk]
      refine ⟨⟨by simp, newsB_may hn, by omega⟩, ?_⟩
      rintro x ⟨hx, hmx, hkx⟩
      rcases List.mem_append.1 hx with hx | hx
      · unfold newsB at hn
        rw [← hk] at hn
        cases e : T.f k with
        | none => rw [e] at h; exact absurd ⟨hx, hmx, hkx⟩ (h x)
        | some o =>
          rw [e] at h hn
          have h1 := h.2 x ⟨hx, hmx, hkx⟩
          simp at hn
          have h2 := hn.2
          rw [aboveM_iff] at h2
          rw [aboveM_not] at h1 ⊢
          omega
      · obtain rfl := List.mem_singleton.1 hx
        rw [aboveM_not]; omega
    · show BestM _ (if k = m.n.toNat then some m else T.f k)
      rw [if_neg hk]
      refine h.congr fun x => ⟨fun hx => ⟨by simp [hx.1], hx.2⟩, fun hx => ?_⟩
      refine ⟨?_, hx.2⟩
      rcases List.mem_append.1 hx.1 with hx1 | hx1
      · exact hx1
      · obtain rfl := List.mem_singleton.1 hx1
        exact absurd hx.2.2 (by omega)
  · rw [if_neg hn]
    unfold newsB at hn
    cases hm : mayM m with
    | false =>
      refine h.congr fun x => ⟨fun hx => ⟨by simp [hx.1], hx.2⟩, fun hx => ⟨?_, hx.2⟩⟩
      rcases List.mem_append.1 hx.1 with hx1 | hx1
      · exact hx1
      · obtain rfl := List.mem_singleton.1 hx1
        exact absurd (hm.symm.trans hx.2.1) (by simp)
    | true =>
      rw [hm, Bool.true_and] at hn
      by_cases hk : k = m.n.toNat
      · rw [← hk] at hn
        cases e : T.f k with
        | none => rw [e] at hn; exact absurd rfl hn
        | some o =>
          rw [e] at h hn
          refine ⟨⟨by simp [h.1.1], h.1.2⟩, ?_⟩
          rintro x ⟨hx, hmx, hkx⟩
          rcases List.mem_append.1 hx with hx | hx
          · exact h.2 x ⟨hx, hmx, hkx⟩
          · obtain rfl := List.mem_singleton.1 hx
            simpa using hn
      · refine h.congr fun x => ⟨fun hx => ⟨by simp [hx.1], hx.2⟩, fun hx => ⟨?_, hx.2⟩⟩
        rcases List.mem_append.1 hx.1 with hx1 | hx1
        · exact hx1
        · obtain rfl := List.mem_singleton.1 hx1
          exact absurd hx.2.2 (by omega)
theorem best_merge {k : Nat} : ∀ {T : Tb} {l : List Mem} (r : List Mem), (∀ m ∈ r, 0 ≤ m.n ∧ m.n ≠ (T.s : Int)) → BestM (HeardOf l k) (T.f k) → BestM (HeardOf (l ++ r) k) ((mergeB T r).f k)
  | T, l, [], _, h => by simpa [mergeB] using h
  | T, l, m :: r, hr, h => by
    have h1 := best_hear (hr m (by simp)).1 (hr m (by simp)).2 h
    have h2 := best_merge (T := hearB T m) (l := l ++ [m]) r (fun x hx => by rw [hearB_s]; exact hr x (by simp [hx])) h1
    simpa [mergeB] using h2
theorem best_new {s k : Nat} (hk : k ≠ s) : BestM (HeardOf [] k) ((newB s).f k) := by
  show BestM _ (if k = s then _ else none)
  rw [if_neg hk]
  rintro m ⟨hm, -⟩
  simp at hm
theorem self_hear {T : Tb} {m : Mem} (h0 : 0 ≤ m.n) (hs : m.n ≠ (T.s : Int)) : (hearB T m).f T.s = T.f T.s := by
  unfold hearB
  split
  · show (if T.s = (saidM T m).n.toNat then _ else _) = _
    rw [saidM_n, if_neg (by omega)]
  · rfl
theorem self_merge : ∀ {T : Tb} (r : List Mem), (∀ m ∈ r, 0 ≤ m.n ∧ m.n ≠ (T.s : Int)) → (mergeB T r).f T.s = T.f T.s
  | T, [], _ => rfl
  | T, m :: r, hr => by
    have h1 := self_hear (hr m (by simp)).1 (hr m (by simp)).2
    have h2 := self_merge (T := hearB T m) r (fun x hx => by rw [hearB_s]; exact hr x (by simp [hx]))
    rw [hearB_s] at h2
    exact h2.trans h1
/-- Whatever the order, and however often. -/
theorem merge_order {s : Nat} {x y : List Mem} (hx : ∀ m ∈ x, 0 ≤ m.n ∧ m.n ≠ (s : Int)) (hy : ∀ m ∈ y, 0 ≤ m.n ∧ m.n ≠ (s : Int)) :
    (mergeB (mergeB (mergeB (newB s) y) x) y).f = (mergeB (mergeB (newB s) x) y).f := by
  rw [← mergeB_append, ← mergeB_append, ← mergeB_append]
  have hxy : ∀ m ∈ x ++ y, 0 ≤ m.n ∧ m.n ≠ ((newB s).s : Int) := fun m hm => (List.mem_append.1 hm).elim (hx m) (hy m)
  have hyxy : ∀ m ∈ y ++ x ++ y, 0 ≤ m.n ∧ m.n ≠ ((newB s).s : Int) := fun m hm => by
    simp only [List.mem_append] at hm
    rcases hm with (h | h) | h
    · exact hy m h
    · exact hx m h
    · exact hy m h
  funext k
  by_cases hk : k = s
  · subst hk
    have h1 := self_merge (T := newB k) _ hxy
    have h2 := self_merge (T := newB k) _ hyxy
    simp only [newB] at h1 h2 ⊢
    rw [List.append_assoc] at h2
    first | rw [h1, h2] | (rw [List.append_assoc]; rw [h1, h2])
  · refine BestM.uniq (S := HeardOf (x ++ y) k) (fun a b ha hb => ha.2.2.trans hb.2.2.symm) ?_ ?_
    · have := best_merge (k := k) _ hyxy (best_new hk)
      rw [List.append_assoc y x y] at this
      refine BestM.congr (fun m => ?_) this
      unfold HeardOf
      simp only [List.mem_append, List.nil_append]
      constructor
      · rintro ⟨h, h2⟩; exact ⟨by rcases h with h | h | h <;> simp [h], h2⟩
      · rintro ⟨h, h2⟩; exact ⟨by rcases h with h | h <;> simp [h], h2⟩
    · have := best_merge (k := k) _ hxy (best_new hk)
      simpa using this
/-- What a table has is no news to one that has the same. -/
theorem news_none {T U : Tb} (h : TbOk T) (e : U.f = T.f) : ∀ (l : List Mem), (∀ m ∈ l, m ∈ memsB T) → mergeM U l = [] ∧ mergeB U l = U
  | [], _ => ⟨rfl, rfl⟩
  | m :: l, hl => by
    have hm := (mem_memsB h).1 (hl m (by simp))
    have hn : newsB U m = false := by
      unfold newsB
      rw [e, hm]
      have : aboveM m m = false := by rw [aboveM_not]; omega
      simp [this]
    have h1 : hearB U m = U := by unfold hearB; rw [hn]; rfl
    have h2 : tellM U m = [] := by unfold tellM; rw [hn]; rfl
    have ih := news_none h e l (fun x hx => hl x (by simp [hx]))
    simp only [mergeM, mergeB, h1, h2, List.nil_append]
    exact ih
/-! Places. -/
theorem memsO_sorted {f : Nat → Option Mem} (hf : ∀ k x, f k = some x → x.n = (k : Int)) : ∀ (c a : Nat), (memsO f a c).Pairwise (fun x y => x.n < y.n)
  | 0, a => by simp [memsO]
  | c + 1, a => by
    rw [memsO_succ]
    cases e : f a with
    | none => simpa using memsO_sorted hf c (a + 1)
    | some x =>
      simp only [Option.toList, List.cons_append, List.nil_append, List.pairwise_cons]
      refine ⟨fun y hy => ?_, memsO_sorted hf c (a + 1)⟩
      obtain ⟨k, h1, h2, h3⟩ := mem_memsO.1 hy
      have := hf a x e
      have := hf k y h3
      omega
theorem memsB_sorted {T : Tb} (h : TbOk T) : (memsB T).Pairwise (fun x y => x.n < y.n) := memsO_sorted (fun k x e => (h.ok k x e).1) 64 0
theorem thereB_sorted {T : Tb} (h : TbOk T) : (thereB T).Pairwise (· < ·) := by
  unfold thereB thereL
  rw [List.pairwise_map]
  exact (memsB_sorted h).sublist (List.filter_sublist)
theorem posL_sorted : ∀ (l : List Int) (i : Nat) (h : i < l.length), l.Pairwise (· < ·) → ∀ s : Nat, l[i] = (s : Int) → posL s l = i
  | x :: l, 0, _, hp, s, e => by
    simp only [List.getElem_cons_zero] at e
    rw [List.pairwise_cons] at hp
    unfold posL
    rw [List.countP_eq_zero]
    intro y hy
    rcases List.mem_cons.1 hy with rfl | hy
    · simp [e]
    · have := hp.1 y hy
      simp; omega
  | x :: l, i + 1, h, hp, s, e => by
    simp only [List.getElem_cons_succ] at e
    rw [List.pairwise_cons] at hp
    have h' : i < l.length := by simpa using h
    have ih := posL_sorted l i h' hp.2 s e
    have hx := hp.1 _ (List.getElem_mem h')
    unfold posL at ih ⊢
    rw [List.countP_cons, ih, if_pos (by simp; omega)]
theorem getL_some {l : List Mem} {n : Int} {m : Mem} (h : getL n l = some m) : m.n = n := by
  unfold getL at h
  have := List.find?_some h
  simpa using this
/-- The answers of a table hang on the list of its members alone. -/
theorem memsB_f {T U : Tb} (hT : TbOk T) (hU : TbOk U) (h : memsB T = memsB U) : T.f = U.f := by
  funext k
  rw [← getL_mems hT, ← getL_mems hU, h]

end Go.Proofs.Ytnoconampcemoaa
