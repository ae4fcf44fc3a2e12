/-
  What lay, Put, Check and Size of package packet tell.
-/
import Derived.Test.YtchhdffehkcecaaDoorP2
namespace Go.Proofs.YtchhdffehkcecaaDoor
open Go Go.RowKit

/-- A block of one packet. -/
def PkBlk (w : World) (X : Nat) (k f a q : Int) (am : Option Addr) (nm cm : Nat) (ae : Option Addr) (ne ce : Nat) : Prop := w.heap[X]? = some (.cells #[.int .u8 k, .int .u16 f, .int .u16 a, .int .i64 q, .slice am nm cm, .slice ae ne ce] 26 (0, 0))
theorem PkBlk.lt {w : World} {X : Nat} {k f a q : Int} {am : Option Addr} {nm cm : Nat} {ae : Option Addr} {ne ce : Nat} (h : PkBlk w X k f a q am nm cm ae ne ce) : X < w.heap.size := ltE h
theorem PkBlk.on {w w' : World} {X : Nat} {k f a q : Int} {am : Option Addr} {nm cm : Nat} {ae : Option Addr} {ne ce : Nat} (h : PkBlk w X k f a q am nm cm ae ne ce) (hb : Below w.heap.size w w') : PkBlk w' X k f a q am nm cm ae ne ce := (hb.block X h.lt).trans h
theorem PkBlk.new (w : World) (k f a q : Int) (am : Option Addr) (nm cm : Nat) (ae : Option Addr) (ne ce : Nat) : PkBlk (w.alloc (.cells #[.int .u8 k, .int .u16 f, .int .u16 a, .int .i64 q, .slice am nm cm, .slice ae ne ce] 26)) w.heap.size k f a q am nm cm ae ne ce := newE w _
theorem PkBlk.c0 {w : World} {X : Nat} {k f a q : Int} {am : Option Addr} {nm cm : Nat} {ae : Option Addr} {ne ce : Nat} (h : PkBlk w X k f a q am nm cm ae ne ce) : w.cell? ⟨X, 0, none⟩ = some (.int .u8 k) := cellE h
theorem PkBlk.c1 {w : World} {X : Nat} {k f a q : Int} {am : Option Addr} {nm cm : Nat} {ae : Option Addr} {ne ce : Nat} (h : PkBlk w X k f a q am nm cm ae ne ce) : w.cell? ⟨X, 1, none⟩ = some (.int .u16 f) := cellE h
theorem PkBlk.c2 {w : World} {X : Nat} {k f a q : Int} {am : Option Addr} {nm cm : Nat} {ae : Option Addr} {ne ce : Nat} (h : PkBlk w X k f a q am nm cm ae ne ce) : w.cell? ⟨X, 2, none⟩ = some (.int .u16 a) := cellE h
theorem PkBlk.c3 {w : World} {X : Nat} {k f a q : Int} {am : Option Addr} {nm cm : Nat} {ae : Option Addr} {ne ce : Nat} (h : PkBlk w X k f a q am nm cm ae ne ce) : w.cell? ⟨X, 3, none⟩ = some (.int .i64 q) := cellE h
theorem PkBlk.c4 {w : World} {X : Nat} {k f a q : Int} {am : Option Addr} {nm cm : Nat} {ae : Option Addr} {ne ce : Nat} (h : PkBlk w X k f a q am nm cm ae ne ce) : w.cell? ⟨X, 4, none⟩ = some (.slice am nm cm) := cellE h
theorem PkBlk.c5 {w : World} {X : Nat} {k f a q : Int} {am : Option Addr} {nm cm : Nat} {ae : Option Addr} {ne ce : Nat} (h : PkBlk w X k f a q am nm cm ae ne ce) : w.cell? ⟨X, 5, none⟩ = some (.slice ae ne ce) := cellE h
theorem PkBlk.f {w : World} {X : Nat} {k f a q : Int} {am : Option Addr} {nm cm : Nat} {ae : Option Addr} {ne ce : Nat} (h : PkBlk w X k f a q am nm cm ae ne ce) (j : Nat) : w.frozen? ⟨X, j, none⟩ = false := by
  unfold PkBlk at h
  simp [World.frozen?, h]
/-- The parts of a packet. -/
def partsPk (p : Pk) : List (List UInt8) := [putInt p.k, putInt p.f, putInt p.a, putInt p.q, putList (p.ms.map layM), putList (p.es.map putEn)]
def layPk (p : Pk) : List UInt8 := putList (partsPk p)
/-- A packet's numbers are those of their types. -/
structure Pk.Ok (p : Pk) : Prop where
  k : 0 ≤ p.k ∧ p.k ≤ 255
  f : 0 ≤ p.f ∧ p.f ≤ 65535
  a : 0 ≤ p.a ∧ p.a ≤ 65535
  q : -9223372036854775808 ≤ p.q ∧ p.q ≤ 9223372036854775807
  ms : ∀ m ∈ p.ms, m.Ok
  es : ∀ x ∈ p.es, x.Ok
def checkP (p : Pk) : Int := if headP p.k p.f p.a p.q = false ∨ memsP p.ms = false ∨ 256 < p.es.length then 14 else if entsP p.es ≠ 0 then entsP p.es else if 16384 < (layPk p).length then 5 else 0
theorem flat_le {α : Type} (g : α → List UInt8) (c : Nat) : ∀ (l : List α), (∀ x ∈ l, (g x).length ≤ c) → (l.map g).flatten.length ≤ l.length * c
  | [], _ => by simp
  | x :: l, h => by
    have h1 := flat_le g c l (fun y hy => h y (by simp [hy]))
    have h2 := h x (by simp)
    simp only [List.map_cons, List.flatten_cons, List.length_append, List.length_cons, Nat.succ_mul]
    omega
theorem checkEn_small {x : Ent} (h : checkEn x = 0) : x.k.size ≤ 1024 ∧ x.v.size ≤ 8192 := by
  unfold checkEn at h
  split at h
  · exact absurd h (by decide)
  · omega
/-- What may be laid is small. -/
structure Pk.Small (p : Pk) : Prop where
  ms : p.ms.length ≤ 64
  es : p.es.length ≤ 256
  ch : ∀ x ∈ p.es, checkEn x = 0
theorem Pk.Small.fm {p : Pk} (h : p.Small) (hp : p.Ok) : (p.ms.map layM).flatten.length ≤ 4352 := by
  have h1 := flat_le layM 68 p.ms (fun m hm => layM_len m (hp.ms m hm))
  have h2 := Nat.mul_le_mul_right 68 h.ms
  omega
theorem putEn_short {x : Ent} (hx : x.Ok) (hc : checkEn x = 0) : (partsE9 x).flatten.length ≤ 9324 := by
  have h1 := checkEn_small hc
  have h2 := putEn_len x hx (by omega) (by omega)
  omega
theorem Pk.Small.fe {p : Pk} (h : p.Small) (hp : p.Ok) : (p.es.map putEn).flatten.length ≤ 2387456 := by
  have h1 := flat_le putEn 9326 p.es (fun x hx => by
    have := putEn_short (hp.es x hx) (h.ch x hx)
    unfold putEn
    rw [putList_lenP]
    omega)
  have h2 := Nat.mul_le_mul_right 9326 h.es
  omega
theorem Pk.Small.fp {p : Pk} (h : p.Small) (hp : p.Ok) : (partsPk p).flatten.length ≤ 3000000 := by
  have h1 := h.fm hp
  have h2 := h.fe hp
  have i1 := putInt_len p.k (by have := hp.k; omega) (by have := hp.k; omega)
  have i2 := putInt_len p.f (by have := hp.f; omega) (by have := hp.f; omega)
  have i3 := putInt_len p.a (by have := hp.a; omega) (by have := hp.a; omega)
  have i4 := putInt_len p.q hp.q.1 hp.q.2
  simp only [partsPk, List.flatten_cons, List.flatten_nil, List.length_append, List.length_nil, putList_lenP]
  omega

set_option maxRecDepth 100000 in
set_option maxHeartbeats 4000000 in
theorem pLay_any (p : Pk) (hp : p.Ok) (hs : p.Small) (am : Option Addr) (nm cm : Nat) (ae : Option Addr) (ne ce : Nat) (hnm : nm = p.ms.length) (hne : ne = p.es.length) (B : Nat) (W : World) (hB : B ≤ W.heap.size) (hv : TabE B W) (hM : MemsAt W am p.ms) (hE : EntsAt W ae p.es) :
    Calls Tryd.prog 25 #[.agg #[.int .u8 p.k, .int .u16 p.f, .int .u16 p.a, .int .i64 p.q, .slice am nm cm, .slice ae ne ce]] W fun e w' => ∃ a k c, e = .returned (.slice a k c) ∧ Own w' W.heap.size (.slice a k c) (layPk p) ∧ Below W.heap.size W w' := by
  have b1 := PkBlk.new W p.k p.f p.a p.q am nm cm ae ne ce
  have d1 := (Below.refl _ W).alloc (Nat.le_refl _) (.cells #[.int .u8 p.k, .int .u16 p.f, .int .u16 p.a, .int .i64 p.q, .slice am nm cm, .slice ae ne ce] 26)
  have HZ := Lib.hid (And.intro b1 (And.intro d1 (And.intro (hM.on d1) (hE.onP d1))))
  have w0 : IntKind.i64.wrap p.k = p.k := by rw [IntKind.wrap_i64]; have := hp.k; omega
  have w1 : IntKind.i64.wrap p.f = p.f := by rw [IntKind.wrap_i64]; have := hp.f; omega
  have w2 : IntKind.i64.wrap p.a = p.a := by rw [IntKind.wrap_i64]; have := hp.a; omega
  have HA1 : Hid (∀ u, Below W.heap.size W u → Calls Tryd.prog 44 #[.int .i64 p.k] u fun e w' => ∃ a k c, e = .returned (.slice a k c) ∧ Own w' u.heap.size (.slice a k c) (putInt p.k) ∧ Below u.heap.size u w') := Lib.hid (fun u hu => Int_valT p.k (by have := hp.k; omega) (by have := hp.k; omega) B u (Nat.le_trans hB hu.size) (hv.on (hu.mono hB)))
  have HA2 : Hid (∀ u, Below W.heap.size W u → Calls Tryd.prog 44 #[.int .i64 p.f] u fun e w' => ∃ a k c, e = .returned (.slice a k c) ∧ Own w' u.heap.size (.slice a k c) (putInt p.f) ∧ Below u.heap.size u w') := Lib.hid (fun u hu => Int_valT p.f (by have := hp.f; omega) (by have := hp.f; omega) B u (Nat.le_trans hB hu.size) (hv.on (hu.mono hB)))
  have HA3 : Hid (∀ u, Below W.heap.size W u → Calls Tryd.prog 44 #[.int .i64 p.a] u fun e w' => ∃ a k c, e = .returned (.slice a k c) ∧ Own w' u.heap.size (.slice a k c) (putInt p.a) ∧ Below u.heap.size u w') := Lib.hid (fun u hu => Int_valT p.a (by have := hp.a; omega) (by have := hp.a; omega) B u (Nat.le_trans hB hu.size) (hv.on (hu.mono hB)))
  have HA4 : Hid (∀ u, Below W.heap.size W u → Calls Tryd.prog 44 #[.int .i64 p.q] u fun e w' => ∃ a k c, e = .returned (.slice a k c) ∧ Own w' u.heap.size (.slice a k c) (putInt p.q) ∧ Below u.heap.size u w') := Lib.hid (fun u hu => Int_valT p.q hp.q.1 hp.q.2 B u (Nat.le_trans hB hu.size) (hv.on (hu.mono hB)))
  have HA5 : Hid (∀ u, Below W.heap.size W u → MemsAt u am p.ms → Calls Tryd.prog 48 #[.slice am nm cm, .func (.func 20) #[] #[]] u fun e w' => ∃ a k c, e = .returned (.slice a k c) ∧ Own w' u.heap.size (.slice a k c) (putList (p.ms.map layM)) ∧ Below u.heap.size u w') := Lib.hid (fun u hu hm => pLayM_any am cm p.ms u hm nm hnm (by have := hs.ms; omega) hp.ms (by have := hs.fm hp; omega) B (Nat.le_trans hB hu.size) (hv.on (hu.mono hB)))
  have HA6 : Hid (∀ u, Below W.heap.size W u → EntsAt u ae p.es → Calls Tryd.prog 49 #[.slice ae ne ce, .func (.func 37) #[] #[]] u fun e w' => ∃ a k c, e = .returned (.slice a k c) ∧ Own w' u.heap.size (.slice a k c) (putList (p.es.map putEn)) ∧ Below u.heap.size u w') := Lib.hid (fun u hu he => pLayE_any ae ce p.es u he ne hne (by have := hs.es; omega) (fun x hx => ⟨hp.es x hx, by have := checkEn_small (hs.ch x hx); omega, by have := checkEn_small (hs.ch x hx); omega, by have := putEn_short (hp.es x hx) (hs.ch x hx); omega⟩) (by have := hs.fe hp; omega) B (Nat.le_trans hB hu.size) (hv.on (hu.mono hB)))
  have HX := Lib.hid (hs.fp hp)
  clear b1 d1 hp hs hB hv hM hE hnm hne
  go_enter Tryd.func25, Tryd.ntmps25
  go_wp2_with fail
  obtain ⟨b2, d2, m2, e2⟩ := HZ.out
  generalize hw2 : (W.alloc (.cells #[.int .u8 p.k, .int .u16 p.f, .int .u16 p.a, .int .i64 p.q, .slice am nm cm, .slice ae ne ce] 26)) = w2' at *
  clear hw2 HZ
  have HD := Lib.hid d2
  clear d2
  refine wp_region_any (by kernel_rfl) ?_
  change wpAny _ _ _ _ _ _ _ (World.drew _)
  have hS : (fun w' : World => PkBlk w' W.heap.size p.k p.f p.a p.q am nm cm ae ne ce ∧ MemsAt w' am p.ms ∧ EntsAt w' ae p.es) w2'.drew := ⟨b2, m2, e2⟩
  refine wpAny_of_held (S := fun w' => PkBlk w' W.heap.size p.k p.f p.a p.q am nm cm ae ne ce ∧ MemsAt w' am p.ms ∧ EntsAt w' ae p.es) _ _ _ _ ?_
  clear b2 m2 e2
  refine wpAnyH_takeE (i := 0) (some 3) (v := ?_) rfl rfl (by as_aux_lemma => kernel_rfl) (by as_aux_lemma => kernel_rfl) (by as_aux_lemma => kernel_rfl) (fun _ _ _ h => h) (Or.inl ⟨by kernel_rfl, ?_⟩) hS ?_
  rotate_left
  · intro w hSw; have c0 := hSw.1.c0; have c1 := hSw.1.c1; have c2 := hSw.1.c2; have c3 := hSw.1.c3; have c4 := hSw.1.c4; have c5 := hSw.1.c5; go_simp
    first | done | with_reducible rfl
  refine wpAnyH_takeE (i := 1) (some 4) (v := ?_) rfl rfl (by as_aux_lemma => kernel_rfl) (by as_aux_lemma => kernel_rfl) (by as_aux_lemma => kernel_rfl) (fun _ _ _ h => h) (Or.inl ⟨by kernel_rfl, ?_⟩) hS ?_
  rotate_left
  · intro w hSw; have c0 := hSw.1.c0; have c1 := hSw.1.c1; have c2 := hSw.1.c2; have c3 := hSw.1.c3; have c4 := hSw.1.c4; have c5 := hSw.1.c5; go_simp
    first | done | with_reducible rfl
  refine wpAnyH_takeE (i := 2) (some 5) (v := ?_) rfl rfl (by as_aux_lemma => kernel_rfl) (by as_aux_lemma => kernel_rfl) (by as_aux_lemma => kernel_rfl) (fun _ _ _ h => h) (Or.inl ⟨by kernel_rfl, ?_⟩) hS ?_
  rotate_left
  · intro w hSw; have c0 := hSw.1.c0; have c1 := hSw.1.c1; have c2 := hSw.1.c2; have c3 := hSw.1.c3; have c4 := hSw.1.c4; have c5 := hSw.1.c5; go_simp
    first | done | with_reducible rfl
  refine wpAnyH_takeE (i := 4) (some 7) (v := ?_) rfl rfl (by as_aux_lemma => kernel_rfl) (by as_aux_lemma => kernel_rfl) (by as_aux_lemma => kernel_rfl) (fun _ _ _ h => h) (Or.inl ⟨by kernel_rfl, ?_⟩) hS ?_
  rotate_left
  · intro w hSw; have c0 := hSw.1.c0; have c1 := hSw.1.c1; have c2 := hSw.1.c2; have c3 := hSw.1.c3; have c4 := hSw.1.c4; have c5 := hSw.1.c5; go_simp
    first | done | with_reducible rfl
  refine wpAnyH_takeE (i := 5) (some 8) (v := ?_) rfl rfl (by as_aux_lemma => kernel_rfl) (by as_aux_lemma => kernel_rfl) (by as_aux_lemma => kernel_rfl) (fun _ _ _ h => h) (Or.inl ⟨by kernel_rfl, ?_⟩) hS ?_
  rotate_left
  · intro w hSw; have c0 := hSw.1.c0; have c1 := hSw.1.c1; have c2 := hSw.1.c2; have c3 := hSw.1.c3; have c4 := hSw.1.c4; have c5 := hSw.1.c5; go_simp
    first | done | with_reducible rfl
  refine wpAnyH_takeE (i := 6) (some 9) (v := ?_) rfl rfl (by as_aux_lemma => kernel_rfl) (by as_aux_lemma => kernel_rfl) (by as_aux_lemma => kernel_rfl) (fun _ _ _ h => h) (Or.inl ⟨by kernel_rfl, ?_⟩) hS ?_
  rotate_left
  · intro w hSw; have c0 := hSw.1.c0; have c1 := hSw.1.c1; have c2 := hSw.1.c2; have c3 := hSw.1.c3; have c4 := hSw.1.c4; have c5 := hSw.1.c5; go_simp
    first | done | with_reducible rfl
  refine wpAnyH_takeE (i := 8) (some 11) (v := ?_) rfl rfl (by as_aux_lemma => kernel_rfl) (by as_aux_lemma => kernel_rfl) (by as_aux_lemma => kernel_rfl) (fun _ _ _ h => h) (Or.inl ⟨by kernel_rfl, ?_⟩) hS ?_
  rotate_left
  · intro w hSw; have c0 := hSw.1.c0; have c1 := hSw.1.c1; have c2 := hSw.1.c2; have c3 := hSw.1.c3; have c4 := hSw.1.c4; have c5 := hSw.1.c5; go_simp
    first | done | with_reducible rfl
  refine wpAnyH_takeE (i := 9) (some 12) (v := ?_) rfl rfl (by as_aux_lemma => kernel_rfl) (by as_aux_lemma => kernel_rfl) (by as_aux_lemma => kernel_rfl) (fun _ _ _ h => h) (Or.inl ⟨by kernel_rfl, ?_⟩) hS ?_
  rotate_left
  · intro w hSw; have c0 := hSw.1.c0; have c1 := hSw.1.c1; have c2 := hSw.1.c2; have c3 := hSw.1.c3; have c4 := hSw.1.c4; have c5 := hSw.1.c5; go_simp
    first | done | with_reducible rfl
  refine wpAnyH_takeE (i := 10) (some 13) (v := ?_) rfl rfl (by as_aux_lemma => kernel_rfl) (by as_aux_lemma => kernel_rfl) (by as_aux_lemma => kernel_rfl) (fun _ _ _ h => h) (Or.inl ⟨by kernel_rfl, ?_⟩) hS ?_
  rotate_left
  · intro w hSw; have c0 := hSw.1.c0; have c1 := hSw.1.c1; have c2 := hSw.1.c2; have c3 := hSw.1.c3; have c4 := hSw.1.c4; have c5 := hSw.1.c5; go_simp
    first | done | with_reducible rfl
  refine wpAnyH_takeE (i := 12) (some 15) (v := ?_) rfl rfl (by as_aux_lemma => kernel_rfl) (by as_aux_lemma => kernel_rfl) (by as_aux_lemma => kernel_rfl) (fun _ _ _ h => h) (Or.inl ⟨by kernel_rfl, ?_⟩) hS ?_
  rotate_left
  · intro w hSw; have c0 := hSw.1.c0; have c1 := hSw.1.c1; have c2 := hSw.1.c2; have c3 := hSw.1.c3; have c4 := hSw.1.c4; have c5 := hSw.1.c5; go_simp
    first | done | with_reducible rfl
  refine wpAnyH_takeE (i := 13) (some 16) (v := ?_) rfl rfl (by as_aux_lemma => kernel_rfl) (by as_aux_lemma => kernel_rfl) (by as_aux_lemma => kernel_rfl) (fun _ _ _ h => h) (Or.inl ⟨by kernel_rfl, ?_⟩) hS ?_
  rotate_left
  · intro w hSw; have c0 := hSw.1.c0; have c1 := hSw.1.c1; have c2 := hSw.1.c2; have c3 := hSw.1.c3; have c4 := hSw.1.c4; have c5 := hSw.1.c5; go_simp
    first | done | with_reducible rfl
  refine wpAnyH_takeE (i := 15) (some 18) (v := ?_) rfl rfl (by as_aux_lemma => kernel_rfl) (by as_aux_lemma => kernel_rfl) (by as_aux_lemma => kernel_rfl) (fun _ _ _ h => h) (Or.inl ⟨by kernel_rfl, ?_⟩) hS ?_
  rotate_left
  · intro w hSw; have c0 := hSw.1.c0; have c1 := hSw.1.c1; have c2 := hSw.1.c2; have c3 := hSw.1.c3; have c4 := hSw.1.c4; have c5 := hSw.1.c5; go_simp
    first | done | with_reducible rfl
  refine wpAnyH_takeE (i := 16) (some 19) (v := ?_) rfl rfl (by as_aux_lemma => kernel_rfl) (by as_aux_lemma => kernel_rfl) (by as_aux_lemma => kernel_rfl) (fun _ _ _ h => h) (Or.inl ⟨by kernel_rfl, ?_⟩) hS ?_
  rotate_left
  · intro w hSw; have c0 := hSw.1.c0; have c1 := hSw.1.c1; have c2 := hSw.1.c2; have c3 := hSw.1.c3; have c4 := hSw.1.c4; have c5 := hSw.1.c5; go_simp
    first | done | with_reducible rfl
  refine wpAnyH_takeE (i := 18) (some 21) (v := ?_) rfl rfl (by as_aux_lemma => kernel_rfl) (by as_aux_lemma => kernel_rfl) (by as_aux_lemma => kernel_rfl) (fun _ _ _ h => h) (Or.inl ⟨by kernel_rfl, ?_⟩) hS ?_
  rotate_left
  · intro w hSw; have c0 := hSw.1.c0; have c1 := hSw.1.c1; have c2 := hSw.1.c2; have c3 := hSw.1.c3; have c4 := hSw.1.c4; have c5 := hSw.1.c5; go_simp
    first | done | with_reducible rfl
  refine wpAnyH_takeE (i := 19) (some 22) (v := ?_) rfl rfl (by as_aux_lemma => kernel_rfl) (by as_aux_lemma => kernel_rfl) (by as_aux_lemma => kernel_rfl) (fun _ _ _ h => h) (Or.inl ⟨by kernel_rfl, ?_⟩) hS ?_
  rotate_left
  · intro w hSw; have c0 := hSw.1.c0; have c1 := hSw.1.c1; have c2 := hSw.1.c2; have c3 := hSw.1.c3; have c4 := hSw.1.c4; have c5 := hSw.1.c5; go_simp
    first | done | with_reducible rfl
  refine wpAnyH_ready (rs := [3]) (by as_aux_lemma => kernel_rfl) (by simp) ?_
  refine AllReadyH.cons rfl (fun K hK => ?_) AllReadyH.nil
  go_simp
  go_wp2_with (go_at_call 44; refine (HA1.out _ (HD.out.drew)).mono ?_; rintro e w3 ⟨a3, k3, c3, rfl, ho3, hb3⟩)
  refine hK.out _ _ ?_ (fun hS => ?_)
  · exact ⟨hS.1.on hb3, hS.2.1.on hb3, hS.2.2.onP hb3⟩
  clear hK K
  have HD3 := Lib.hid (show Below W.heap.size W w3 from (HD.out.drew).trans (hb3.mono (HD.out.drew).size))
  have HO3 := Lib.hid ho3
  have HB3 := Lib.hid hb3
  clear ho3 hb3 HA1
  refine wpAnyH_ready (rs := [7]) (by as_aux_lemma => kernel_rfl) (by simp) ?_
  refine AllReadyH.cons rfl (fun K hK => ?_) AllReadyH.nil
  go_simp
  go_wp2_with (go_at_call 44; refine (HA2.out _ (HD3.out)).mono ?_; rintro e w4 ⟨a4, k4, c4, rfl, ho4, hb4⟩)
  refine hK.out _ _ ?_ (fun hS => ?_)
  · exact ⟨hS.1.on hb4, hS.2.1.on hb4, hS.2.2.onP hb4⟩
  clear hK K
  have HD4 := Lib.hid (show Below W.heap.size W w4 from (HD3.out).trans (hb4.mono (HD3.out).size))
  have HO4 := Lib.hid ho4
  have HB4 := Lib.hid hb4
  clear ho4 hb4 HA2
  refine wpAnyH_ready (rs := [11]) (by as_aux_lemma => kernel_rfl) (by simp) ?_
  refine AllReadyH.cons rfl (fun K hK => ?_) AllReadyH.nil
  go_simp
  go_wp2_with (go_at_call 44; refine (HA3.out _ (HD4.out)).mono ?_; rintro e w5 ⟨a5, k5, c5, rfl, ho5, hb5⟩)
  refine hK.out _ _ ?_ (fun hS => ?_)
  · exact ⟨hS.1.on hb5, hS.2.1.on hb5, hS.2.2.onP hb5⟩
  clear hK K
  have HD5 := Lib.hid (show Below W.heap.size W w5 from (HD4.out).trans (hb5.mono (HD4.out).size))
  have HO5 := Lib.hid ho5
  have HB5 := Lib.hid hb5
  clear ho5 hb5 HA3
  refine wpAnyH_ready (rs := [14]) (by as_aux_lemma => kernel_rfl) (by simp) ?_
  refine AllReadyH.cons rfl (fun K hK => ?_) AllReadyH.nil
  go_simp
  go_wp2_with (go_at_call 44; refine (HA4.out _ (HD5.out)).mono ?_; rintro e w6 ⟨a6, k6, c6, rfl, ho6, hb6⟩)
  refine hK.out _ _ ?_ (fun hS => ?_)
  · exact ⟨hS.1.on hb6, hS.2.1.on hb6, hS.2.2.onP hb6⟩
  clear hK K
  have HD6 := Lib.hid (show Below W.heap.size W w6 from (HD5.out).trans (hb6.mono (HD5.out).size))
  have HO6 := Lib.hid ho6
  have HB6 := Lib.hid hb6
  clear ho6 hb6 HA4
  refine wpAnyH_ready (rs := [17]) (by as_aux_lemma => kernel_rfl) (by simp) ?_
  refine AllReadyH.cons rfl (fun K hK => ?_) AllReadyH.nil
  go_simp
  go_wp2_with (go_at_call 48; refine (HA5.out _ (HD6.out) hS.2.1).mono ?_; rintro e w7 ⟨a7, k7, c7, rfl, ho7, hb7⟩)
  refine hK.out _ _ ?_ (fun hS => ?_)
  · exact ⟨hS.1.on hb7, hS.2.1.on hb7, hS.2.2.onP hb7⟩
  clear hK K
  have HD7 := Lib.hid (show Below W.heap.size W w7 from (HD6.out).trans (hb7.mono (HD6.out).size))
  have HO7 := Lib.hid ho7
  have HB7 := Lib.hid hb7
  clear ho7 hb7 HA5
  refine wpAnyH_ready (rs := [20]) (by as_aux_lemma => kernel_rfl) (by simp) ?_
  refine AllReadyH.cons rfl (fun K hK => ?_) AllReadyH.nil
  go_simp
  go_wp2_with (go_at_call 49; refine (HA6.out _ (HD7.out) hS.2.2).mono ?_; rintro e w8 ⟨a8, k8, c8, rfl, ho8, hb8⟩)
  refine hK.out _ _ ?_ (fun hS => ?_)
  · exact ⟨hS.1.on hb8, hS.2.1.on hb8, hS.2.2.onP hb8⟩
  clear hK K
  have HD8 := Lib.hid (show Below W.heap.size W w8 from (HD7.out).trans (hb8.mono (HD7.out).size))
  have HO8 := Lib.hid ho8
  have HB8 := Lib.hid hb8
  clear ho8 hb8 HA6
  refine wpAnyH_ready (rs := [21]) (by as_aux_lemma => kernel_rfl) (by simp) ?_
  refine AllReadyH.cons rfl (fun K hK => ?_) AllReadyH.nil
  go_simp
  go_wp2_with (fail)
  refine hK.out _ _ ?_ (fun hS => ?_)
  · exact ⟨hS.1.on ((Below.refl w8.heap.size w8).alloc (Nat.le_refl _) _), hS.2.1.on ((Below.refl w8.heap.size w8).alloc (Nat.le_refl _) _), hS.2.2.onP ((Below.refl w8.heap.size w8).alloc (Nat.le_refl _) _)⟩
  clear hK K
  have hbb : Below w8.heap.size w8 (w8.alloc (.cells #[.slice a3 k3 c3, .slice a4 k4 c4, .slice a5 k5 c5, .slice a6 k6 c6, .slice a7 k7 c7, .slice a8 k8 c8] 30)) := (Below.refl _ _).alloc (Nat.le_refl _) _
  have e3 := (((((HO3.out.src.below HB4.out (Nat.le_refl _)).below HB5.out (Nat.le_refl _)).below HB6.out (Nat.le_refl _)).below HB7.out (Nat.le_refl _)).below HB8.out (Nat.le_refl _)).below hbb (Nat.le_refl _)
  have e4 := ((((HO4.out.src.below HB5.out (Nat.le_refl _)).below HB6.out (Nat.le_refl _)).below HB7.out (Nat.le_refl _)).below HB8.out (Nat.le_refl _)).below hbb (Nat.le_refl _)
  have e5 := (((HO5.out.src.below HB6.out (Nat.le_refl _)).below HB7.out (Nat.le_refl _)).below HB8.out (Nat.le_refl _)).below hbb (Nat.le_refl _)
  have e6 := ((HO6.out.src.below HB7.out (Nat.le_refl _)).below HB8.out (Nat.le_refl _)).below hbb (Nat.le_refl _)
  have e7 := (HO7.out.src.below HB8.out (Nat.le_refl _)).below hbb (Nat.le_refl _)
  have e8 := HO8.out.src.below hbb (Nat.le_refl _)
  have n0 := newE w8 (.cells #[.slice a3 k3 c3, .slice a4 k4 c4, .slice a5 k5 c5, .slice a6 k6 c6, .slice a7 k7 c7, .slice a8 k8 c8] 30)
  have hp : PartsAt (w8.alloc (.cells #[.slice a3 k3 c3, .slice a4 k4 c4, .slice a5 k5 c5, .slice a6 k6 c6, .slice a7 k7 c7, .slice a8 k8 c8] 30)) (some ⟨w8.heap.size, 0, none⟩) (partsPk p) := fun _ => ⟨_, 0, rfl, fun i hi => by
    match i, hi with
    | 0, _ => exact ⟨_, cellE n0, e3⟩
    | 1, _ => exact ⟨_, cellE n0, e4⟩
    | 2, _ => exact ⟨_, cellE n0, e5⟩
    | 3, _ => exact ⟨_, cellE n0, e6⟩
    | 4, _ => exact ⟨_, cellE n0, e7⟩
    | 5, _ => exact ⟨_, cellE n0, e8⟩⟩
  have HL := Lib.hid (List_val (some ⟨w8.heap.size, 0, none⟩) 6 _ _ hp (by simp [partsPk]) (by have := HX.out; omega) 6 rfl)
  have HN := Lib.hid (HD8.out.trans (hbb.mono HD8.out.size))
  have HZ := Lib.hid (show W.heap.size ≤ (w8.alloc (.cells #[.slice a3 k3 c3, .slice a4 k4 c4, .slice a5 k5 c5, .slice a6 k6 c6, .slice a7 k7 c7, .slice a8 k8 c8] 30)).heap.size from HN.out.size)
  clear hp e3 e4 e5 e6 e7 e8 hbb n0 HO3 HB3 HD3 HO4 HB4 HD4 HO5 HB5 HD5 HO6 HB6 HD6 HO7 HB7 HD7 HO8 HB8 HD8 HD
  refine wpAnyH_ready (rs := [22]) (by as_aux_lemma => kernel_rfl) (by simp) ?_
  refine AllReadyH.cons rfl (fun K hK => ?_) AllReadyH.nil
  go_simp
  go_wp2_with (go_at_call 43; refine HL.out.mono ?_; rintro e w9 ⟨a9, k9, c9, rfl, ho9, hb9⟩)
  refine hK.out _ _ ?_ (fun hS => ?_)
  · exact ⟨hS.1.on hb9, hS.2.1.on hb9, hS.2.2.onP hb9⟩
  clear hK K
  refine wpAnyH_takeE (i := 23) (some 2) (v := ?_) rfl rfl (by as_aux_lemma => kernel_rfl) (by as_aux_lemma => kernel_rfl) (by as_aux_lemma => kernel_rfl) (fun _ _ _ h => h) (Or.inl ⟨by kernel_rfl, ?_⟩) hS ?_
  rotate_left
  · intro w hSw; skip; go_simp
    first | done | with_reducible rfl
  refine wpAnyH_done (by kernel_rfl) ?_ _
  have ho' : Own w9 W.heap.size (.slice a9 k9 c9) (layPk p) := ownE_base ho9 HZ.out
  have HF := Lib.hid (And.intro ho' (HN.out.trans (hb9.mono HZ.out)))
  clear ho9 ho' hb9 hS HL HN HZ
  go_wp2
  go_ret
  exact ⟨a9, k9, c9, rfl, HF.out.1, HF.out.2⟩
set_option maxRecDepth 100000 in
set_option maxHeartbeats 4000000 in
theorem pPut_h (p : Pk) (am : Option Addr) (nm cm : Nat) (ae : Option Addr) (ne ce : Nat) (W : World) (hM : MemsAt W am p.ms) (hE : EntsAt W ae p.es) (h1 : headP p.k p.f p.a p.q = false) :
    Calls Tryd.prog 11 #[.agg #[.int .u8 p.k, .int .u16 p.f, .int .u16 p.a, .int .i64 p.q, .slice am nm cm, .slice ae ne ce]] W fun e w' => e = .returned (.tuple #[.slice none 0 0, .int .i64 14]) ∧ Below W.heap.size W w' := by
  have HH := Lib.hid (fun u => pHead_any p.k p.f p.a p.q am ae nm cm ne ce u)
  have b1 := PkBlk.new W p.k p.f p.a p.q am nm cm ae ne ce
  have d1 := (Below.refl _ W).alloc (Nat.le_refl _) (.cells #[.int .u8 p.k, .int .u16 p.f, .int .u16 p.a, .int .i64 p.q, .slice am nm cm, .slice ae ne ce] 26)
  have HZ := Lib.hid (And.intro b1 (And.intro d1 (And.intro (hM.on d1) (hE.onP d1))))
  have x0 := b1.c0; have x1 := b1.c1; have x2 := b1.c2; have x3 := b1.c3; have x4 := b1.c4; have x5 := b1.c5
  rw [h1] at HH
  clear b1 d1 hM hE h1
  go_enter Tryd.func11, Tryd.ntmps11
  go_wp2_with (go_at_call 22; refine (HH.out _).mono ?_; rintro e u1 ⟨rfl, q1⟩; refine Hid.out ?_)
  refine Lib.hid ?_
  obtain ⟨b1, d1, m1, e1⟩ := HZ.out
  have HZ1 := Lib.hid (And.intro (b1.on q1) (And.intro (d1.trans (q1.mono d1.size)) (And.intro (m1.on q1) (e1.onP q1))))
  have y0 := HZ1.out.1.c0; have y1 := HZ1.out.1.c1; have y2 := HZ1.out.1.c2; have y3 := HZ1.out.1.c3; have y4 := HZ1.out.1.c4; have y5 := HZ1.out.1.c5
  clear x0 x1 x2 x3 x4 x5 HZ b1 d1 m1 e1 q1 HH
  go_wp2
  refine bodyPost_ret (v := .tuple #[.slice none 0 0, .int .i64 14]) (by simp [results, Tryd.results11, go_sem]) rfl ?_
  exact ⟨rfl, HZ1.out.2.1⟩
set_option maxRecDepth 100000 in
set_option maxHeartbeats 4000000 in
theorem pPut_m (p : Pk) (am : Option Addr) (nm cm : Nat) (ae : Option Addr) (ne ce : Nat) (hnm : nm = p.ms.length) (W : World) (hM : MemsAt W am p.ms) (hE : EntsAt W ae p.es) (h1 : headP p.k p.f p.a p.q = true) (h2 : memsP p.ms = false) :
    Calls Tryd.prog 11 #[.agg #[.int .u8 p.k, .int .u16 p.f, .int .u16 p.a, .int .i64 p.q, .slice am nm cm, .slice ae ne ce]] W fun e w' => e = .returned (.tuple #[.slice none 0 0, .int .i64 14]) ∧ Below W.heap.size W w' := by
  have HH := Lib.hid (fun u => pHead_any p.k p.f p.a p.q am ae nm cm ne ce u)
  have HM : Hid (∀ u, MemsAt u am p.ms → Calls Tryd.prog 23 #[.slice am nm cm] u fun e w' => e = .returned (.bool (memsP p.ms)) ∧ Below u.heap.size u w') := Lib.hid (fun u hm => pMembers_any am cm p.ms u hm nm hnm)
  have b1 := PkBlk.new W p.k p.f p.a p.q am nm cm ae ne ce
  have d1 := (Below.refl _ W).alloc (Nat.le_refl _) (.cells #[.int .u8 p.k, .int .u16 p.f, .int .u16 p.a, .int .i64 p.q, .slice am nm cm, .slice ae ne ce] 26)
  have HZ := Lib.hid (And.intro b1 (And.intro d1 (And.intro (hM.on d1) (hE.onP d1))))
  have x0 := b1.c0; have x1 := b1.c1; have x2 := b1.c2; have x3 := b1.c3; have x4 := b1.c4; have x5 := b1.c5
  rw [h1] at HH
  rw [h2] at HM
  clear b1 d1 hM hE hnm h1 h2
  go_enter Tryd.func11, Tryd.ntmps11
  go_wp2_with (go_at_call 22; refine (HH.out _).mono ?_; rintro e u1 ⟨rfl, q1⟩; refine Hid.out ?_)
  refine Lib.hid ?_
  obtain ⟨b1, d1, m1, e1⟩ := HZ.out
  have HZ1 := Lib.hid (And.intro (b1.on q1) (And.intro (d1.trans (q1.mono d1.size)) (And.intro (m1.on q1) (e1.onP q1))))
  have y0 := HZ1.out.1.c0; have y1 := HZ1.out.1.c1; have y2 := HZ1.out.1.c2; have y3 := HZ1.out.1.c3; have y4 := HZ1.out.1.c4; have y5 := HZ1.out.1.c5
  clear x0 x1 x2 x3 x4 x5 HZ b1 d1 m1 e1 q1 HH
  go_wp2_with (go_at_call 23; refine (HM.out _ HZ1.out.2.2.1).mono ?_; rintro e u2 ⟨rfl, q2⟩; refine Hid.out ?_)
  refine Lib.hid ?_
  obtain ⟨b1, d1, m1, e1⟩ := HZ1.out
  have HZ2 := Lib.hid (And.intro (b1.on q2) (And.intro (d1.trans (q2.mono d1.size)) (And.intro (m1.on q2) (e1.onP q2))))
  clear y0 y1 y2 y3 y4 y5 HZ1 b1 d1 m1 e1 q2 HM
  have y0 := HZ2.out.1.c0; have y1 := HZ2.out.1.c1; have y2 := HZ2.out.1.c2; have y3 := HZ2.out.1.c3; have y4 := HZ2.out.1.c4; have y5 := HZ2.out.1.c5
  go_wp2
  refine bodyPost_ret (v := .tuple #[.slice none 0 0, .int .i64 14]) (by simp [results, Tryd.results11, go_sem]) rfl ?_
  exact ⟨rfl, HZ2.out.2.1⟩
set_option maxRecDepth 100000 in
set_option maxHeartbeats 4000000 in
theorem pPut_n (p : Pk) (am : Option Addr) (nm cm : Nat) (ae : Option Addr) (ne ce : Nat) (hnm : nm = p.ms.length) (hne : ne = p.es.length) (W : World) (hM : MemsAt W am p.ms) (hE : EntsAt W ae p.es) (h1 : headP p.k p.f p.a p.q = true) (h2 : memsP p.ms = true) (h3 : 256 < p.es.length) :
    Calls Tryd.prog 11 #[.agg #[.int .u8 p.k, .int .u16 p.f, .int .u16 p.a, .int .i64 p.q, .slice am nm cm, .slice ae ne ce]] W fun e w' => e = .returned (.tuple #[.slice none 0 0, .int .i64 14]) ∧ Below W.heap.size W w' := by
  have HH := Lib.hid (fun u => pHead_any p.k p.f p.a p.q am ae nm cm ne ce u)
  have HM : Hid (∀ u, MemsAt u am p.ms → Calls Tryd.prog 23 #[.slice am nm cm] u fun e w' => e = .returned (.bool (memsP p.ms)) ∧ Below u.heap.size u w') := Lib.hid (fun u hm => pMembers_any am cm p.ms u hm nm hnm)
  have b1 := PkBlk.new W p.k p.f p.a p.q am nm cm ae ne ce
  have d1 := (Below.refl _ W).alloc (Nat.le_refl _) (.cells #[.int .u8 p.k, .int .u16 p.f, .int .u16 p.a, .int .i64 p.q, .slice am nm cm, .slice ae ne ce] 26)
  have HZ := Lib.hid (And.intro b1 (And.intro d1 (And.intro (hM.on d1) (hE.onP d1))))
  have x0 := b1.c0; have x1 := b1.c1; have x2 := b1.c2; have x3 := b1.c3; have x4 := b1.c4; have x5 := b1.c5
  rw [h1] at HH
  rw [h2] at HM
  have g3 : (256 : Int) < (ne : Int) := by omega
  clear b1 d1 hM hE hnm hne h1 h2 h3
  go_enter Tryd.func11, Tryd.ntmps11
  go_wp2_with (go_at_call 22; refine (HH.out _).mono ?_; rintro e u1 ⟨rfl, q1⟩; refine Hid.out ?_)
  refine Lib.hid ?_
  obtain ⟨b1, d1, m1, e1⟩ := HZ.out
  have HZ1 := Lib.hid (And.intro (b1.on q1) (And.intro (d1.trans (q1.mono d1.size)) (And.intro (m1.on q1) (e1.onP q1))))
  have y0 := HZ1.out.1.c0; have y1 := HZ1.out.1.c1; have y2 := HZ1.out.1.c2; have y3 := HZ1.out.1.c3; have y4 := HZ1.out.1.c4; have y5 := HZ1.out.1.c5
  clear x0 x1 x2 x3 x4 x5 HZ b1 d1 m1 e1 q1 HH
  go_wp2_with (go_at_call 23; refine (HM.out _ HZ1.out.2.2.1).mono ?_; rintro e u2 ⟨rfl, q2⟩; refine Hid.out ?_)
  refine Lib.hid ?_
  obtain ⟨b1, d1, m1, e1⟩ := HZ1.out
  have HZ2 := Lib.hid (And.intro (b1.on q2) (And.intro (d1.trans (q2.mono d1.size)) (And.intro (m1.on q2) (e1.onP q2))))
  clear y0 y1 y2 y3 y4 y5 HZ1 b1 d1 m1 e1 q2 HM
  have y0 := HZ2.out.1.c0; have y1 := HZ2.out.1.c1; have y2 := HZ2.out.1.c2; have y3 := HZ2.out.1.c3; have y4 := HZ2.out.1.c4; have y5 := HZ2.out.1.c5
  go_wp2
  refine bodyPost_ret (v := .tuple #[.slice none 0 0, .int .i64 14]) (by simp [results, Tryd.results11, go_sem]) rfl ?_
  exact ⟨rfl, HZ2.out.2.1⟩
set_option maxRecDepth 100000 in
set_option maxHeartbeats 4000000 in
theorem pPut_e (p : Pk) (am : Option Addr) (nm cm : Nat) (ae : Option Addr) (ne ce : Nat) (hnm : nm = p.ms.length) (hne : ne = p.es.length) (W : World) (hM : MemsAt W am p.ms) (hE : EntsAt W ae p.es) (h1 : headP p.k p.f p.a p.q = true) (h2 : memsP p.ms = true) (h3 : ¬ 256 < p.es.length) (h4 : entsP p.es ≠ 0) :
    Calls Tryd.prog 11 #[.agg #[.int .u8 p.k, .int .u16 p.f, .int .u16 p.a, .int .i64 p.q, .slice am nm cm, .slice ae ne ce]] W fun e w' => e = .returned (.tuple #[.slice none 0 0, .int .i64 (entsP p.es)]) ∧ Below W.heap.size W w' := by
  have HH := Lib.hid (fun u => pHead_any p.k p.f p.a p.q am ae nm cm ne ce u)
  have HM : Hid (∀ u, MemsAt u am p.ms → Calls Tryd.prog 23 #[.slice am nm cm] u fun e w' => e = .returned (.bool (memsP p.ms)) ∧ Below u.heap.size u w') := Lib.hid (fun u hm => pMembers_any am cm p.ms u hm nm hnm)
  have b1 := PkBlk.new W p.k p.f p.a p.q am nm cm ae ne ce
  have d1 := (Below.refl _ W).alloc (Nat.le_refl _) (.cells #[.int .u8 p.k, .int .u16 p.f, .int .u16 p.a, .int .i64 p.q, .slice am nm cm, .slice ae ne ce] 26)
  have HZ := Lib.hid (And.intro b1 (And.intro d1 (And.intro (hM.on d1) (hE.onP d1))))
  have x0 := b1.c0; have x1 := b1.c1; have x2 := b1.c2; have x3 := b1.c3; have x4 := b1.c4; have x5 := b1.c5
  have HEn : Hid (∀ u, EntsAt u ae p.es → Calls Tryd.prog 24 #[.slice ae ne ce] u fun e w' => e = .returned (.int .i64 (entsP p.es)) ∧ Below u.heap.size u w') := Lib.hid (fun u he => pEntries_any ae ce p.es u he ne hne (by omega))
  rw [h1] at HH
  rw [h2] at HM
  have g3 : ¬ (256 : Int) < (ne : Int) := by omega
  generalize entsP p.es = E at *
  have g4 : ((E : Int) != 0) = true := by simpa using h4
  clear b1 d1 hM hE hnm hne h1 h2 h3 h4
  go_enter Tryd.func11, Tryd.ntmps11
  go_wp2_with (go_at_call 22; refine (HH.out _).mono ?_; rintro e u1 ⟨rfl, q1⟩; refine Hid.out ?_)
  refine Lib.hid ?_
  obtain ⟨b1, d1, m1, e1⟩ := HZ.out
  have HZ1 := Lib.hid (And.intro (b1.on q1) (And.intro (d1.trans (q1.mono d1.size)) (And.intro (m1.on q1) (e1.onP q1))))
  have y0 := HZ1.out.1.c0; have y1 := HZ1.out.1.c1; have y2 := HZ1.out.1.c2; have y3 := HZ1.out.1.c3; have y4 := HZ1.out.1.c4; have y5 := HZ1.out.1.c5
  clear x0 x1 x2 x3 x4 x5 HZ b1 d1 m1 e1 q1 HH
  go_wp2_with (go_at_call 23; refine (HM.out _ HZ1.out.2.2.1).mono ?_; rintro e u2 ⟨rfl, q2⟩; refine Hid.out ?_)
  refine Lib.hid ?_
  obtain ⟨b1, d1, m1, e1⟩ := HZ1.out
  have HZ2 := Lib.hid (And.intro (b1.on q2) (And.intro (d1.trans (q2.mono d1.size)) (And.intro (m1.on q2) (e1.onP q2))))
  clear y0 y1 y2 y3 y4 y5 HZ1 b1 d1 m1 e1 q2 HM
  have y0 := HZ2.out.1.c0; have y1 := HZ2.out.1.c1; have y2 := HZ2.out.1.c2; have y3 := HZ2.out.1.c3; have y4 := HZ2.out.1.c4; have y5 := HZ2.out.1.c5
  go_wp2_with (go_at_call 24; refine (HEn.out _ HZ2.out.2.2.2).mono ?_; rintro e u3 ⟨rfl, q3⟩; refine Hid.out ?_)
  refine Lib.hid ?_
  obtain ⟨b1, d1, m1, e1⟩ := HZ2.out
  have HZ3 := Lib.hid (And.intro (b1.on q3) (And.intro (d1.trans (q3.mono d1.size)) (And.intro (m1.on q3) (e1.onP q3))))
  clear y0 y1 y2 y3 y4 y5 HZ2 b1 d1 m1 e1 q3 HEn
  have y0 := HZ3.out.1.c0; have y1 := HZ3.out.1.c1; have y2 := HZ3.out.1.c2; have y3 := HZ3.out.1.c3; have y4 := HZ3.out.1.c4; have y5 := HZ3.out.1.c5
  go_wp2
  refine bodyPost_ret (v := .tuple #[.slice none 0 0, .int .i64 E]) (by simp [results, Tryd.results11, go_sem]) rfl ?_
  exact ⟨rfl, HZ3.out.2.1⟩
theorem src_lenP {w : World} {a : Option Addr} {n c : Nat} {l : List UInt8} (h : SrcAt w (.slice a n c) l) : n = l.length := by
  rcases h with ⟨e, rfl⟩ | ⟨q, c', e, hc⟩
  · simp only [Value.slice.injEq] at e; exact e.2.1
  · simp only [Value.slice.injEq] at e; exact e.2.1
set_option maxRecDepth 100000 in
set_option maxHeartbeats 4000000 in
theorem pPut_l (p : Pk) (hp : p.Ok) (am : Option Addr) (nm cm : Nat) (ae : Option Addr) (ne ce : Nat) (hnm : nm = p.ms.length) (hne : ne = p.es.length) (B : Nat) (W : World) (hB : B ≤ W.heap.size) (hv : TabE B W) (hM : MemsAt W am p.ms) (hE : EntsAt W ae p.es) (h1 : headP p.k p.f p.a p.q = true) (h2 : memsP p.ms = true) (h3 : ¬ 256 < p.es.length) (h4 : entsP p.es = 0) (h5 : 16384 < (layPk p).length) :
    Calls Tryd.prog 11 #[.agg #[.int .u8 p.k, .int .u16 p.f, .int .u16 p.a, .int .i64 p.q, .slice am nm cm, .slice ae ne ce]] W fun e w' => e = .returned (.tuple #[.slice none 0 0, .int .i64 5]) ∧ Below W.heap.size W w' := by
  have HH := Lib.hid (fun u => pHead_any p.k p.f p.a p.q am ae nm cm ne ce u)
  have HM : Hid (∀ u, MemsAt u am p.ms → Calls Tryd.prog 23 #[.slice am nm cm] u fun e w' => e = .returned (.bool (memsP p.ms)) ∧ Below u.heap.size u w') := Lib.hid (fun u hm => pMembers_any am cm p.ms u hm nm hnm)
  have b1 := PkBlk.new W p.k p.f p.a p.q am nm cm ae ne ce
  have d1 := (Below.refl _ W).alloc (Nat.le_refl _) (.cells #[.int .u8 p.k, .int .u16 p.f, .int .u16 p.a, .int .i64 p.q, .slice am nm cm, .slice ae ne ce] 26)
  have HZ := Lib.hid (And.intro b1 (And.intro d1 (And.intro (hM.on d1) (hE.onP d1))))
  have x0 := b1.c0; have x1 := b1.c1; have x2 := b1.c2; have x3 := b1.c3; have x4 := b1.c4; have x5 := b1.c5
  have HEn : Hid (∀ u, EntsAt u ae p.es → Calls Tryd.prog 24 #[.slice ae ne ce] u fun e w' => e = .returned (.int .i64 (entsP p.es)) ∧ Below u.heap.size u w') := Lib.hid (fun u he => pEntries_any ae ce p.es u he ne hne (by omega))
  have HL : Hid (∀ u, Below W.heap.size W u → MemsAt u am p.ms → EntsAt u ae p.es → Calls Tryd.prog 25 #[.agg #[.int .u8 p.k, .int .u16 p.f, .int .u16 p.a, .int .i64 p.q, .slice am nm cm, .slice ae ne ce]] u fun e w' => ∃ a k c, e = .returned (.slice a k c) ∧ Own w' u.heap.size (.slice a k c) (layPk p) ∧ Below u.heap.size u w') := Lib.hid (fun u hu hm he => pLay_any p hp ⟨by have h9 := h2; simp only [memsP, Bool.and_eq_true, decide_eq_true_eq] at h9; exact h9.1, by omega, entsP_all h4⟩ am nm cm ae ne ce hnm hne B u (Nat.le_trans hB hu.size) (hv.on (hu.mono hB)) hm he)
  rw [h1] at HH
  rw [h2] at HM
  rw [h4] at HEn
  have g3 : ¬ (256 : Int) < (ne : Int) := by omega
  obtain ⟨N, hN⟩ : ∃ N, (layPk p).length = N := ⟨_, rfl⟩
  have g5 : (16384 : Int) < (N : Int) := by omega
  clear b1 d1 hp hB hv hM hE hnm hne h1 h2 h3 h4 h5
  go_enter Tryd.func11, Tryd.ntmps11
  go_wp2_with (go_at_call 22; refine (HH.out _).mono ?_; rintro e u1 ⟨rfl, q1⟩; refine Hid.out ?_)
  refine Lib.hid ?_
  obtain ⟨b1, d1, m1, e1⟩ := HZ.out
  have HZ1 := Lib.hid (And.intro (b1.on q1) (And.intro (d1.trans (q1.mono d1.size)) (And.intro (m1.on q1) (e1.onP q1))))
  have y0 := HZ1.out.1.c0; have y1 := HZ1.out.1.c1; have y2 := HZ1.out.1.c2; have y3 := HZ1.out.1.c3; have y4 := HZ1.out.1.c4; have y5 := HZ1.out.1.c5
  clear x0 x1 x2 x3 x4 x5 HZ b1 d1 m1 e1 q1 HH
  go_wp2_with (go_at_call 23; refine (HM.out _ HZ1.out.2.2.1).mono ?_; rintro e u2 ⟨rfl, q2⟩; refine Hid.out ?_)
  refine Lib.hid ?_
  obtain ⟨b1, d1, m1, e1⟩ := HZ1.out
  have HZ2 := Lib.hid (And.intro (b1.on q2) (And.intro (d1.trans (q2.mono d1.size)) (And.intro (m1.on q2) (e1.onP q2))))
  clear y0 y1 y2 y3 y4 y5 HZ1 b1 d1 m1 e1 q2 HM
  have y0 := HZ2.out.1.c0; have y1 := HZ2.out.1.c1; have y2 := HZ2.out.1.c2; have y3 := HZ2.out.1.c3; have y4 := HZ2.out.1.c4; have y5 := HZ2.out.1.c5
  go_wp2_with (go_at_call 24; refine (HEn.out _ HZ2.out.2.2.2).mono ?_; rintro e u3 ⟨rfl, q3⟩; refine Hid.out ?_)
  refine Lib.hid ?_
  obtain ⟨b1, d1, m1, e1⟩ := HZ2.out
  have HZ3 := Lib.hid (And.intro (b1.on q3) (And.intro (d1.trans (q3.mono d1.size)) (And.intro (m1.on q3) (e1.onP q3))))
  clear y0 y1 y2 y3 y4 y5 HZ2 b1 d1 m1 e1 q3 HEn
  have y0 := HZ3.out.1.c0; have y1 := HZ3.out.1.c1; have y2 := HZ3.out.1.c2; have y3 := HZ3.out.1.c3; have y4 := HZ3.out.1.c4; have y5 := HZ3.out.1.c5
  go_wp2_with (go_at_call 25; refine (HL.out _ HZ3.out.2.1 HZ3.out.2.2.1 HZ3.out.2.2.2).mono ?_; rintro e u4 ⟨a4, k4, c4, rfl, ho4, q4⟩; refine Hid.out ?_)
  refine Lib.hid ?_
  obtain ⟨a5, k5, c5, e5⟩ := ho4.form
  have hk4 : k4 = N := (src_lenP ho4.src).trans hN
  subst hk4
  have HF := Lib.hid (And.intro (ownE_base ho4 HZ3.out.2.1.size) (HZ3.out.2.1.trans (q4.mono HZ3.out.2.1.size)))
  clear y0 y1 y2 y3 y4 y5 HZ3 ho4 q4 HL e5
  clear hN
  go_wp2
  refine bodyPost_ret (v := .tuple #[.slice none 0 0, .int .i64 5]) (by simp [results, Tryd.results11, go_sem]) rfl ?_
  exact ⟨rfl, HF.out.2⟩
set_option maxRecDepth 100000 in
set_option maxHeartbeats 4000000 in
theorem pPut_o (p : Pk) (hp : p.Ok) (am : Option Addr) (nm cm : Nat) (ae : Option Addr) (ne ce : Nat) (hnm : nm = p.ms.length) (hne : ne = p.es.length) (B : Nat) (W : World) (hB : B ≤ W.heap.size) (hv : TabE B W) (hM : MemsAt W am p.ms) (hE : EntsAt W ae p.es) (h1 : headP p.k p.f p.a p.q = true) (h2 : memsP p.ms = true) (h3 : ¬ 256 < p.es.length) (h4 : entsP p.es = 0) (h5 : ¬ 16384 < (layPk p).length) :
    Calls Tryd.prog 11 #[.agg #[.int .u8 p.k, .int .u16 p.f, .int .u16 p.a, .int .i64 p.q, .slice am nm cm, .slice ae ne ce]] W fun e w' => ∃ a n c, e = .returned (.tuple #[.slice a n c, .int .i64 0]) ∧ Own w' W.heap.size (.slice a n c) (layPk p) ∧ Below W.heap.size W w' := by
  have HH := Lib.hid (fun u => pHead_any p.k p.f p.a p.q am ae nm cm ne ce u)
  have HM : Hid (∀ u, MemsAt u am p.ms → Calls Tryd.prog 23 #[.slice am nm cm] u fun e w' => e = .returned (.bool (memsP p.ms)) ∧ Below u.heap.size u w') := Lib.hid (fun u hm => pMembers_any am cm p.ms u hm nm hnm)
  have b1 := PkBlk.new W p.k p.f p.a p.q am nm cm ae ne ce
  have d1 := (Below.refl _ W).alloc (Nat.le_refl _) (.cells #[.int .u8 p.k, .int .u16 p.f, .int .u16 p.a, .int .i64 p.q, .slice am nm cm, .slice ae ne ce] 26)
  have HZ := Lib.hid (And.intro b1 (And.intro d1 (And.intro (hM.on d1) (hE.onP d1))))
  have x0 := b1.c0; have x1 := b1.c1; have x2 := b1.c2; have x3 := b1.c3; have x4 := b1.c4; have x5 := b1.c5
  have HEn : Hid (∀ u, EntsAt u ae p.es → Calls Tryd.prog 24 #[.slice ae ne ce] u fun e w' => e = .returned (.int .i64 (entsP p.es)) ∧ Below u.heap.size u w') := Lib.hid (fun u he => pEntries_any ae ce p.es u he ne hne (by omega))
  have HL : Hid (∀ u, Below W.heap.size W u → MemsAt u am p.ms → EntsAt u ae p.es → Calls Tryd.prog 25 #[.agg #[.int .u8 p.k, .int .u16 p.f, .int .u16 p.a, .int .i64 p.q, .slice am nm cm, .slice ae ne ce]] u fun e w' => ∃ a k c, e = .returned (.slice a k c) ∧ Own w' u.heap.size (.slice a k c) (layPk p) ∧ Below u.heap.size u w') := Lib.hid (fun u hu hm he => pLay_any p hp ⟨by have h9 := h2; simp only [memsP, Bool.and_eq_true, decide_eq_true_eq] at h9; exact h9.1, by omega, entsP_all h4⟩ am nm cm ae ne ce hnm hne B u (Nat.le_trans hB hu.size) (hv.on (hu.mono hB)) hm he)
  rw [h1] at HH
  rw [h2] at HM
  rw [h4] at HEn
  have g3 : ¬ (256 : Int) < (ne : Int) := by omega
  obtain ⟨N, hN⟩ : ∃ N, (layPk p).length = N := ⟨_, rfl⟩
  have g5 : ¬ (16384 : Int) < (N : Int) := by omega
  clear b1 d1 hp hB hv hM hE hnm hne h1 h2 h3 h4 h5
  go_enter Tryd.func11, Tryd.ntmps11
  go_wp2_with (go_at_call 22; refine (HH.out _).mono ?_; rintro e u1 ⟨rfl, q1⟩; refine Hid.out ?_)
  refine Lib.hid ?_
  obtain ⟨b1, d1, m1, e1⟩ := HZ.out
  have HZ1 := Lib.hid (And.intro (b1.on q1) (And.intro (d1.trans (q1.mono d1.size)) (And.intro (m1.on q1) (e1.onP q1))))
  have y0 := HZ1.out.1.c0; have y1 := HZ1.out.1.c1; have y2 := HZ1.out.1.c2; have y3 := HZ1.out.1.c3; have y4 := HZ1.out.1.c4; have y5 := HZ1.out.1.c5
  clear x0 x1 x2 x3 x4 x5 HZ b1 d1 m1 e1 q1 HH
  go_wp2_with (go_at_call 23; refine (HM.out _ HZ1.out.2.2.1).mono ?_; rintro e u2 ⟨rfl, q2⟩; refine Hid.out ?_)
  refine Lib.hid ?_
  obtain ⟨b1, d1, m1, e1⟩ := HZ1.out
  have HZ2 := Lib.hid (And.intro (b1.on q2) (And.intro (d1.trans (q2.mono d1.size)) (And.intro (m1.on q2) (e1.onP q2))))
  clear y0 y1 y2 y3 y4 y5 HZ1 b1 d1 m1 e1 q2 HM
  have y0 := HZ2.out.1.c0; have y1 := HZ2.out.1.c1; have y2 := HZ2.out.1.c2; have y3 := HZ2.out.1.c3; have y4 := HZ2.out.1.c4; have y5 := HZ2.out.1.c5
  go_wp2_with (go_at_call 24; refine (HEn.out _ HZ2.out.2.2.2).mono ?_; rintro e u3 ⟨rfl, q3⟩; refine Hid.out ?_)
  refine Lib.hid ?_
  obtain ⟨b1, d1, m1, e1⟩ := HZ2.out
  have HZ3 := Lib.hid (And.intro (b1.on q3) (And.intro (d1.trans (q3.mono d1.size)) (And.intro (m1.on q3) (e1.onP q3))))
  clear y0 y1 y2 y3 y4 y5 HZ2 b1 d1 m1 e1 q3 HEn
  have y0 := HZ3.out.1.c0; have y1 := HZ3.out.1.c1; have y2 := HZ3.out.1.c2; have y3 := HZ3.out.1.c3; have y4 := HZ3.out.1.c4; have y5 := HZ3.out.1.c5
  go_wp2_with (go_at_call 25; refine (HL.out _ HZ3.out.2.1 HZ3.out.2.2.1 HZ3.out.2.2.2).mono ?_; rintro e u4 ⟨a4, k4, c4, rfl, ho4, q4⟩; refine Hid.out ?_)
  refine Lib.hid ?_
  obtain ⟨a5, k5, c5, e5⟩ := ho4.form
  have hk4 : k4 = N := (src_lenP ho4.src).trans hN
  subst hk4
  have HF := Lib.hid (And.intro (ownE_base ho4 HZ3.out.2.1.size) (HZ3.out.2.1.trans (q4.mono HZ3.out.2.1.size)))
  clear y0 y1 y2 y3 y4 y5 HZ3 ho4 q4 HL e5
  clear hN
  go_wp2
  refine bodyPost_ret (v := .tuple #[.slice a4 k4 c4, .int .i64 0]) (by simp [results, Tryd.results11, go_sem]) rfl ?_
  exact ⟨a4, _, c4, rfl, HF.out.1, HF.out.2⟩

/-- Where nothing is laid. -/
theorem pPut_err (p : Pk) (hp : p.Ok) (am : Option Addr) (nm cm : Nat) (ae : Option Addr) (ne ce : Nat) (hnm : nm = p.ms.length) (hne : ne = p.es.length) (B : Nat) (W : World) (hB : B ≤ W.heap.size) (hv : TabE B W) (hM : MemsAt W am p.ms) (hE : EntsAt W ae p.es) (hc : checkP p ≠ 0) :
    Calls Tryd.prog 11 #[.agg #[.int .u8 p.k, .int .u16 p.f, .int .u16 p.a, .int .i64 p.q, .slice am nm cm, .slice ae ne ce]] W fun e w' => e = .returned (.tuple #[.slice none 0 0, .int .i64 (checkP p)]) ∧ Below W.heap.size W w' := by
  cases h1 : headP p.k p.f p.a p.q with
  | false =>
    have e : checkP p = 14 := if_pos (Or.inl h1)
    rw [e]
    exact pPut_h p am nm cm ae ne ce W hM hE h1
  | true =>
    cases h2 : memsP p.ms with
    | false =>
      have e : checkP p = 14 := if_pos (Or.inr (Or.inl h2))
      rw [e]
      exact pPut_m p am nm cm ae ne ce hnm W hM hE h1 h2
    | true =>
      by_cases h3 : 256 < p.es.length
      · have e : checkP p = 14 := if_pos (Or.inr (Or.inr h3))
        rw [e]
        exact pPut_n p am nm cm ae ne ce hnm hne W hM hE h1 h2 h3
      · have e0 : checkP p = if entsP p.es ≠ 0 then entsP p.es else if 16384 < (layPk p).length then 5 else 0 := if_neg (by rw [h1, h2]; simpa using h3)
        by_cases h4 : entsP p.es = 0
        · rw [if_neg (fun h => h h4)] at e0
          by_cases h5 : 16384 < (layPk p).length
          · rw [if_pos h5] at e0
            rw [e0]
            exact pPut_l p hp am nm cm ae ne ce hnm hne B W hB hv hM hE h1 h2 h3 h4 h5
          · rw [if_neg h5] at e0
            exact absurd e0 hc
        · rw [if_pos h4] at e0
          rw [e0]
          exact pPut_e p am nm cm ae ne ce hnm hne W hM hE h1 h2 h3 h4
theorem checkP_zero {p : Pk} (hc : checkP p = 0) : headP p.k p.f p.a p.q = true ∧ memsP p.ms = true ∧ ¬ 256 < p.es.length ∧ entsP p.es = 0 ∧ ¬ 16384 < (layPk p).length := by
  unfold checkP at hc
  split at hc
  · exact absurd hc (by decide)
  rename_i h1
  split at hc
  · rename_i h2; exact absurd hc h2
  rename_i h2
  split at hc
  · exact absurd hc (by decide)
  rename_i h3
  refine ⟨?_, ?_, fun h => h1 (Or.inr (Or.inr h)), by simpa using h2, h3⟩
  · cases h : headP p.k p.f p.a p.q with
    | true => rfl
    | false => exact absurd (Or.inl h) h1
  · cases h : memsP p.ms with
    | true => rfl
    | false => exact absurd (Or.inr (Or.inl h)) h1
/-- Where the bytes are told. -/
theorem pPut_ok (p : Pk) (hp : p.Ok) (am : Option Addr) (nm cm : Nat) (ae : Option Addr) (ne ce : Nat) (hnm : nm = p.ms.length) (hne : ne = p.es.length) (B : Nat) (W : World) (hB : B ≤ W.heap.size) (hv : TabE B W) (hM : MemsAt W am p.ms) (hE : EntsAt W ae p.es) (hc : checkP p = 0) :
    Calls Tryd.prog 11 #[.agg #[.int .u8 p.k, .int .u16 p.f, .int .u16 p.a, .int .i64 p.q, .slice am nm cm, .slice ae ne ce]] W fun e w' => ∃ a n c, e = .returned (.tuple #[.slice a n c, .int .i64 0]) ∧ Own w' W.heap.size (.slice a n c) (layPk p) ∧ Below W.heap.size W w' := by
  obtain ⟨h1, h2, h3, h4, h5⟩ := checkP_zero hc
  exact pPut_o p hp am nm cm ae ne ce hnm hne B W hB hv hM hE h1 h2 h3 h4 h5

end Go.Proofs.YtchhdffehkcecaaDoor
