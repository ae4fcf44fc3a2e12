/-
  Lists that a call makes anew: append to an empty list of its own leaves all that lay as it was. Rows of matchers, texts, routes and rules of a call's own. A region that draws its order, where what is held of memory is held up to one operation alone (the store that ends it).
-/
import Derived.Test.YthaimnmbcbhioaaDoorRCheck
import Derived.Laws.OwnMore
import Derived.Laws.AppendOwnNone
import Derived.Maps.AppendAt
import Derived.Laws.Tables
import Derived.RegionTactic
import Derived.Deep.RegionHeld3
namespace Go.Proofs.YthaimnmbcbhioaaDoor
open Go.RowKit

theorem fresh_own {w : World} {B g : Nat} {e : TypeId} {size : Nat} (hg : w.heap[g]? = some (.cells #[] e (0, 0))) (hB : B ≤ g) : w.ownsRow B e size (.slice (some ⟨g, 0, none⟩) 0 0) 0 [] :=
  ⟨by simp, .inr ⟨g, 0, #[], rfl, hB, hg, Nat.le_refl _, Nat.zero_le _, by simp, by simp⟩⟩

/-- append of what lies somewhere, to an empty list of the call's own. -/
theorem run_clone (t ty e : TypeId) (i : TypeInfo) (z : Value) (size bytes : Nat) (ht : Tryd.prog.underlying t = some (.slice e)) (hi : Tryd.prog.info? e = some i) (hz : i.zero = some z) (hsize : i.size = size) (hby : i.bytes = bytes) (hzs : z.cells.size = size) (hsz : 0 < size)
    (w : World) (B g : Nat) (hg : w.heap[g]? = some (.cells #[] e (0, 0))) (hB : B ≤ g) (q : Option Addr) (n c : Nat) (news : List Value) (hl : news.length = n * size) (hnews : ∀ ad, q = some ad → ∀ j u, news[j]? = some u → w.cell? (ad.add j) = some u) (h1 : ∀ u ∈ news, u.oneCell' = true)
    (hnil : q = none → n = 0 ∧ c = 0) (h63 : n ≤ maxLen) (hbytes : n * bytes ≤ 140737488355328) :
    ∃ v' w', (Builtin.append_ #[t, t] ty #[.slice (some ⟨g, 0, none⟩) 0 0, .slice q n c]).run Tryd.prog w = .ok v' w' ∧ w'.ownsRow B e size v' n news ∧ Below w.heap.size w w' := by
  have hlt : g < w.heap.size := lt_of_block hg
  cases q with
  | none =>
    obtain ⟨rfl, rfl⟩ := hnil rfl
    obtain rfl : news = [] := List.eq_nil_of_length_eq_zero (by simpa using hl)
    exact ⟨_, w, run_append_owned_none (P := Tryd.prog) (w := w) B t ty e i size ht hi _ 0 [] (fresh_own hg hB), fresh_own hg hB, Below.refl _ _⟩
  | some ad =>
    by_cases hn : n = 0
    · subst hn
      obtain rfl : news = [] := List.eq_nil_of_length_eq_zero (by simpa using hl)
      have hr := run_append_room (P := Tryd.prog) w t ty e i ht hi g 0 0 #[] hg ad 0 c [] (by simp) (fun j u hj => by simp at hj) (fun u hu => by cases hu) (Nat.le_refl _) (by simp)
      have hs := setRow_heap w g #[] (((#[] : Array Value).toList.take (0 * i.size) ++ [] ++ (#[] : Array Value).toList.drop (0 * i.size + ([] : List Value).length)).toArray) e (0, 0) hg
      have e0 : ((#[] : Array Value).toList.take (0 * i.size) ++ [] ++ (#[] : Array Value).toList.drop (0 * i.size + ([] : List Value).length)).toArray = #[] := by simp
      rw [e0] at hr hs
      refine ⟨_, _, hr, fresh_own hs hB, ⟨rfl, rfl, rfl, by simp [World.setRow], fun k hk => ?_⟩⟩
      by_cases hkg : k = g
      · subst hkg; rw [hs, hg]
      · exact setRow_other w g k _ hkg
    · obtain ⟨v', w', hr, h2, -, -, -⟩ := run_append_own_at (P := Tryd.prog) w B t ty e i z size bytes ht hi hz hsize hby hzs hsz _ 0 [] (fresh_own hg hB) ad n c news hl (hnews ad rfl) h1 (by omega) (by simpa using hbytes) (by omega)
      subst hsize hby
      have hr2 := run_append_grow (P := Tryd.prog) w t ty e i z ht hi hz ⟨g, 0, none⟩ 0 0 [] (by simp) (fun j v hj => by simp at hj) ad n c news hl (hnews ad rfl) (by omega) (by unfold maxLen at h63; omega) (growslice_fits (by omega) (by simpa using hbytes))
      rw [hr] at hr2
      injection hr2 with e1 e2
      refine ⟨v', w', hr, by simpa using h2, ?_⟩
      rw [e2]
      exact (Below.refl w.heap.size w).drew.alloc (Nat.le_refl _) _

theorem wpList_clone (t e : TypeId) (i : TypeInfo) (z : Value) (size bytes : Nat) (ht : Tryd.prog.underlying t = some (.slice e)) (hi : Tryd.prog.info? e = some i) (hz : i.zero = some z) (hsize : i.size = size) (hby : i.bytes = bytes) (hzs : z.cells.size = size) (hsz : 0 < size)
    {ops : Array Oper} {rest : List Oper} {o : Oper} {act : Act} {Q : Exit → Act → World → Prop} {w : World} (hgd : o.guard = none) (s x : Operand) (ho : o.op = .call { callee := .builtin .append, args := #[s, x], argTypes := #[t, t] })
    (B g : Nat) (hs : act.eval s = .slice (some ⟨g, 0, none⟩) 0 0) (hg : w.heap[g]? = some (.cells #[] e (0, 0))) (hB : B ≤ g) (q : Option Addr) (n c : Nat) (news : List Value) (hx : act.eval x = .slice q n c) (hl : news.length = n * size) (hnews : ∀ ad, q = some ad → ∀ j u, news[j]? = some u → w.cell? (ad.add j) = some u) (h1 : ∀ u ∈ news, u.oneCell' = true)
    (hnil : q = none → n = 0 ∧ c = 0) (h63 : n ≤ maxLen) (hbytes : n * bytes ≤ 140737488355328)
    (h : ∀ v' w', w'.ownsRow B e size v' n news → Below w.heap.size w w' → wpList Tryd.prog ops Q rest (act.put o.dst v') w') : wpList Tryd.prog ops Q (o :: rest) act w := by
  refine wpList_plain hgd fun K hK => ?_
  obtain ⟨v', w', hr, h2, h3⟩ := run_clone t o.type e i z size bytes ht hi hz hsize hby hzs hsz w B g hg hB q n c news hl hnews h1 hnil h63 hbytes
  unfold Oper.wp execOp
  simp only [ho, resolve, invoke, builtin, Sem.run_bind, Sem.run_pure, Result.andThen_ok, List.map_toArray, List.map_cons, List.map_nil, hs, hx, hr]
  exact hK _ _ (h v' w' h2 h3)
theorem step_clone (t e : TypeId) (i : TypeInfo) (z : Value) (size bytes : Nat) (ht : Tryd.prog.underlying t = some (.slice e)) (hi : Tryd.prog.info? e = some i) (hz : i.zero = some z) (hsize : i.size = size) (hby : i.bytes = bytes) (hzs : z.cells.size = size) (hsz : 0 < size)
    {w : World} {ops : Array Oper} {o : Oper} {act : Act} {K : Act → World → Prop} {Q : Exit → Act → World → Prop} {E : Prop} (hgd : o.guard = none) (s x : Operand) (ho : o.op = .call { callee := .builtin .append, args := #[s, x], argTypes := #[t, t] })
    (B g : Nat) (hs : act.eval s = .slice (some ⟨g, 0, none⟩) 0 0) (hg : w.heap[g]? = some (.cells #[] e (0, 0))) (hB : B ≤ g) (q : Option Addr) (n c : Nat) (news : List Value) (hx : act.eval x = .slice q n c) (hl : news.length = n * size) (hnews : ∀ ad, q = some ad → ∀ j u, news[j]? = some u → w.cell? (ad.add j) = some u) (h1 : ∀ u ∈ news, u.oneCell' = true)
    (hnil : q = none → n = 0 ∧ c = 0) (h63 : n ≤ maxLen) (hbytes : n * bytes ≤ 140737488355328)
    (h : ∀ v' w', w'.ownsRow B e size v' n news → Below w.heap.size w w' → K (act.put o.dst v') w') :
    if Region.wanted o (yielded ops act.tmps) = true then Oper.wp Tryd.prog o act w K Q else E := by
  have hw : Region.wanted o (yielded ops act.tmps) = true := by simp [Region.wanted, hgd]
  rw [if_pos hw]
  obtain ⟨v', w', hr, h2, h3⟩ := run_clone t o.type e i z size bytes ht hi hz hsize hby hzs hsz w B g hg hB q n c news hl hnews h1 hnil h63 hbytes
  unfold Oper.wp execOp
  simp only [ho, resolve, invoke, builtin, Sem.run_bind, Sem.run_pure, Result.andThen_ok, List.map_toArray, List.map_cons, List.map_nil, hs, hx, hr]
  exact h v' w' h2 h3

/-- The cells of a row of elements of k cells each. -/
theorem flat_len {α : Type} {enc : α → List Value} {k : Nat} (hk : ∀ x, (enc x).length = k) : ∀ l : List α, (l.flatMap enc).length = l.length * k
  | [] => by simp
  | x :: l => by rw [List.flatMap_cons, List.length_append, hk, flat_len hk l, List.length_cons, Nat.succ_mul]; omega
theorem flat_get {α : Type} {enc : α → List Value} {k : Nat} (hk : ∀ x, (enc x).length = k) : ∀ (l : List α) (i : Nat) (hi : i < l.length) (j : Nat), j < k → (l.flatMap enc)[i * k + j]? = (enc l[i])[j]?
  | x :: l, 0, _, j, hj => by
    rw [List.flatMap_cons, Nat.zero_mul, Nat.zero_add, List.getElem?_append_left (by rw [hk]; exact hj)]
    rfl
  | x :: l, i + 1, hi, j, hj => by
    have := flat_get hk l i (by simpa using hi) j hj
    rw [List.flatMap_cons, List.getElem?_append_right (by rw [hk, Nat.succ_mul]; omega), show (i + 1) * k + j - (enc x).length = i * k + j by rw [hk, Nat.succ_mul]; omega, this]
    rfl
theorem flat_at {α : Type} {enc : α → List Value} {k : Nat} (hk : ∀ x, (enc x).length = k) (hk0 : 0 < k) (l : List α) {n : Nat} {v : Value} (h : (l.flatMap enc)[n]? = some v) : ∃ hi : n / k < l.length, (enc l[n / k])[n % k]? = some v := by
  have hn := (List.getElem?_eq_some_iff.1 h).1
  rw [flat_len hk] at hn
  have hi : n / k < l.length := (Nat.div_lt_iff_lt_mul hk0).2 hn
  refine ⟨hi, ?_⟩
  rw [← flat_get hk l (n / k) hi (n % k) (Nat.mod_lt _ hk0), Nat.div_add_mod']
  exact h

def rowM (ms : List Mt) : List Value := ms.flatMap encM
theorem encM_len (m : Mt) : (encM m).length = 3 := rfl
theorem encR_len (r : Rt) : (encR r).length = 8 := rfl
theorem encL_len (r : Rl) : (encL r).length = 3 := rfl
theorem mts_news {w : World} {a : Option Addr} {ms : List Mt} (h : MtsAt w a ms) : ∀ ad, a = some ad → ∀ j u, (rowM ms)[j]? = some u → w.cell? (ad.add j) = some u := fun ad e j u hj => by
  obtain ⟨hi, hu⟩ := flat_at encM_len (by decide) ms hj
  obtain ⟨b, o, e2, -, hc⟩ := h (by omega)
  obtain rfl : ad = ⟨b, o, none⟩ := Option.some.inj (e.symm.trans e2)
  obtain ⟨c0, c1, c2⟩ := hc (j / 3) hi
  have hm : j % 3 < 3 := Nat.mod_lt _ (by decide)
  rw [Go.WideShapes.add_plain, show o + j = o + j / 3 * 3 + j % 3 by omega]
  rcases (by omega : j % 3 = 0 ∨ j % 3 = 1 ∨ j % 3 = 2) with e | e | e
  · rw [e] at hu ⊢; rw [← hu]; exact c0
  · rw [e] at hu ⊢; rw [← hu]; exact c1
  · rw [e] at hu ⊢; rw [← hu]; exact c2
theorem rowM_one {ms : List Mt} : ∀ u ∈ rowM ms, u.oneCell' = true := fun u h => by
  obtain ⟨m, -, h2⟩ := List.mem_flatMap.1 h
  simp only [encM, List.mem_cons, List.not_mem_nil, or_false] at h2
  rcases h2 with rfl | rfl | rfl <;> rfl
theorem strs_news {w : World} {a : Option Addr} {l : List ByteArray} (h : StrsAt w a l) : ∀ ad, a = some ad → ∀ j u, (l.map Value.string)[j]? = some u → w.cell? (ad.add j) = some u := fun ad e j u hj => by
  obtain ⟨hj1, hj2⟩ := List.getElem?_eq_some_iff.1 hj
  rw [List.length_map] at hj1
  obtain ⟨b, o, e2, -, hc⟩ := h (by omega)
  obtain rfl : ad = ⟨b, o, none⟩ := Option.some.inj (e.symm.trans e2)
  rw [Go.WideShapes.add_plain, ← hj2, List.getElem_map]
  exact hc j hj1
theorem strs_one {l : List ByteArray} : ∀ u ∈ l.map Value.string, u.oneCell' = true := fun u h => by
  obtain ⟨y, -, rfl⟩ := List.mem_map.1 h
  rfl
/-- Where a list of the call's own lies. -/
theorem own_mts {w : World} {B : Nat} {v : Value} {ms : List Mt} (h : w.ownsRow B 36 3 v ms.length (rowM ms)) : ∃ a c, v = .slice a ms.length c ∧ MtsAt w a ms ∧ (a = none → c = 0) ∧ ∀ ad, a = some ad → B ≤ ad.block ∧ ad.block < w.heap.size := by
  rcases h.2 with ⟨rfl, h0⟩ | ⟨g, cap, cur, rfl, hg0, hg1, hcap, hmax, hcs, htk⟩
  · exact ⟨none, 0, by rw [h0], (fun hn => by omega), (fun _ => rfl), fun ad e => by cases e⟩
  · refine ⟨_, _, rfl, fun _ => ⟨g, 0, rfl, lt_of_block hg1, fun i hi => ?_⟩, (fun e => by cases e), fun ad e => by obtain rfl := Option.some.inj e; exact ⟨hg0, lt_of_block hg1⟩⟩
    have hc : ∀ j, j < 3 → w.cell? ⟨g, i * 3 + j, none⟩ = (encM ms[i])[j]? := fun j hj => by
      rw [World.ownsRow.cellAt h _ (by omega)]
      exact flat_get encM_len ms i hi j hj
    rw [Nat.zero_add]
    exact ⟨hc 0 (by omega), hc 1 (by omega), hc 2 (by omega)⟩
theorem own_strs {w : World} {B : Nat} {v : Value} {l : List ByteArray} (h : w.ownsRow B 9 1 v l.length (l.map .string)) : ∃ a c, v = .slice a l.length c ∧ StrsAt w a l ∧ l.length ≤ c ∧ (a = none → c = 0) ∧ ∀ ad, a = some ad → B ≤ ad.block ∧ ad.block < w.heap.size := by
  rcases h.2 with ⟨rfl, h0⟩ | ⟨g, cap, cur, rfl, hg0, hg1, hcap, hmax, hcs, htk⟩
  · exact ⟨none, 0, by rw [h0], (fun hn => by omega), by omega, (fun _ => rfl), fun ad e => by cases e⟩
  · refine ⟨_, _, rfl, fun _ => ⟨g, 0, rfl, lt_of_block hg1, fun i hi => ?_⟩, hcap, (fun e => by cases e), fun ad e => by obtain rfl := Option.some.inj e; exact ⟨hg0, lt_of_block hg1⟩⟩
    have := World.ownsRow.cellAt h i (by omega)
    rw [Nat.zero_add, this]
    simp [hi]
theorem infoMt : (Tryd.prog.info? 36).map (fun i => (i.zero, i.size, i.bytes)) = some (some (.agg #[.string ⟨#[]⟩, .int .u8 0, .string ⟨#[]⟩]), 3, 40) := by kernel_rfl
theorem infoSt : (Tryd.prog.info? 9).map (fun i => (i.zero, i.size, i.bytes)) = some (some (.string ⟨#[]⟩), 1, 16) := by kernel_rfl
theorem infoRt : (Tryd.prog.info? 33).map (fun i => (i.zero, i.size, i.bytes)) = some (some (.agg #[.int .i64 0, .slice none 0 0, .bool false, .slice none 0 0, .string ⟨#[]⟩, .int .i64 0, .int .i64 0, .int .i64 0]), 8, 104) := by kernel_rfl
theorem infoRl : (Tryd.prog.info? 38).map (fun i => (i.zero, i.size, i.bytes)) = some (some (.agg #[.slice none 0 0, .slice none 0 0, .slice none 0 0]), 3, 72) := by kernel_rfl


section
variable {P : Program} {ops : Array Oper} {Q : Exit → Act → World → Prop} {md : Region.Mode} {S : World → Prop} {z : Nat}

/-- In whatever order the rest comes up; S holds behind each operation but z. -/
def Till (P : Program) (md : Region.Mode) (ops : Array Oper) (Q : Exit → Act → World → Prop) (S : World → Prop) (z : Nat) : Nat → Array Bool → Act → World → Prop
  | 0, L, a, w => Region.ready md ops L = [] ∧ Q .normal a w
  | n + 1, L, a, w => (Region.ready md ops L = [] → Q .normal a w) ∧ ∀ j ∈ Region.ready md ops L, wpOp P ops Q j (fun a' w' => (j ≠ z → S w') ∧ Till P md ops Q S z n (L.setIfInBounds j true) a' w') a w
theorem Till.any : ∀ {n : Nat} {L : Array Bool} {a : Act} {w : World}, Till P md ops Q S z n L a w → wpAny P md ops Q n L a w
  | 0, _, _, _, h => h
  | _ + 1, _, _, _, h => ⟨h.1, fun j hj => wpOp_mono (fun _ _ k => k.2.any) (h.2 j hj)⟩
/-- z waits for i. -/
def Waits (md : Region.Mode) (ops : Array Oper) (z i : Nat) : Bool := match ops[z]? with
  | some o => o.after.any fun e => Region.binds md e && e.on == i
  | none => false
theorem not_ready {i : Nat} {L : Array Bool} (hw : Waits md ops z i = true) (hi : L.getD i true = false) : z ∉ Region.ready md ops L := fun hz => by
  obtain ⟨-, o, ho, hall⟩ := mem_ready.1 hz
  unfold Waits at hw
  rw [ho] at hw
  obtain ⟨e, he, hb⟩ := Array.any_eq_true'.1 hw
  rw [Bool.and_eq_true, beq_iff_eq] at hb
  have h1 := hall e he hb.1
  rw [hb.2] at h1
  rcases Nat.lt_or_ge i L.size with h | h
  · simp [h] at hi h1
    rw [hi] at h1
    cases h1
  · simp [Array.getElem?_eq_none h] at h1
theorem Till.first {i : Nat} {o : Oper} {v : Value} (hi : ops[i]? = some o) (hsel : ∀ (j : Nat) (o : Oper) cs b, ops[j]? = some o → o.op ≠ .select cs b) (hQ : ∀ c a w, Q (.panic c) (a.put o.dst v) w → Q (.panic c) a w) (hw : Waits md ops z i = true) :
    ∀ (n : Nat) (L : Array Bool) (a : Act) (w : World), (∀ j p, ops[j]? = some p → j ≠ i → L.getD j true = false → (∀ e ∈ p.after, Region.binds md e = true → e.on ≠ i) → o.apart ops p = true) → i ∈ Region.ready md ops L → YieldsIf P ops S o v a → S w →
      Till P md ops Q S z n (L.setIfInBounds i true) (a.put o.dst v) w → Till P md ops Q S z (n + 1) L a w
  | n, L, a, w, hfree, hr, hy, hS, H => by
    have hun := (mem_ready.1 hr).1
    refine ⟨fun h => (by rw [h] at hr; cases hr), fun j hj => ?_⟩
    by_cases hji : j = i
    · subst hji
      exact hy.wpOp hi hS ⟨fun _ => hS, H⟩
    have hjz : j ≠ z := fun e => not_ready hw hun (e ▸ hj)
    have hj2 := ready_mono hj hji
    match n, H with
    | 0, H => rw [H.1] at hj2; cases hj2
    | n + 1, H =>
      obtain ⟨hjun, p, hp, hall⟩ := mem_ready.1 hj
      have hno : ∀ e ∈ p.after, Region.binds md e = true → e.on ≠ i := fun e he hb heq => by
        have h1 := hall e he hb
        rw [heq] at h1
        rcases Nat.lt_or_ge i L.size with h | h
        · simp [h] at hun h1
          rw [hun] at h1
          cases h1
        · simp [Array.getElem?_eq_none h] at h1
      have h2 := wpOp_putIf hp (hfree j p hp hji hjun hno) (fun cs b => hsel i o cs b hi) (fun cs b => hsel j p cs b hp) hQ hy (H.2 j hj2)
      refine wpOp_mono (fun a' w' k => ⟨k.2.1, ?_⟩) h2
      refine Till.first hi hsel hQ hw n (L.setIfInBounds j true) a' w' (fun q oq hq hqi hqu hqn => hfree q oq hq hqi ?_ hqn) (ready_mono hr (Ne.symm hji)) k.1 (k.2.1 hjz) ?_
      · by_cases hjq : j = q
        · rw [← hjq]; exact hjun
        · rw [getD_set_ne true hjq] at hqu; exact hqu
      · rw [Array.setIfInBounds_comm _ _ hji]
        exact k.2.2
/-- One that yields its value wherever S holds is taken first. -/
theorem Till.take {i : Nat} (dst : Option Nat) {o : Oper} {v : Value} {n : Nat} {L : Array Bool} {a : Act} {w : World} (hi : ops[i]? = some o) (hd : o.dst = dst) (hs : Region.noSelect ops = true) (hf : Region.free md ops L i = true) (hr : (Region.ready md ops L).contains i = true) (hw : Waits md ops z i = true)
    (hQ : ∀ c a w, Q (.panic c) (a.put dst v) w → Q (.panic c) a w) (hy : YieldsIf P ops S o v a) (hS : S w) (h : Till P md ops Q S z n (L.setIfInBounds i true) (a.put dst v) w) : Till P md ops Q S z (n + 1) L a w := by
  subst hd
  exact Till.first hi (Region.noSelect_spec hs) hQ hw n L a w (Region.free_spec hi hf) (by simpa using hr) hy hS h
/-- Each of those that may come up. -/
def TillAll (P : Program) (md : Region.Mode) (ops : Array Oper) (Q : Exit → Act → World → Prop) (S : World → Prop) (z n : Nat) (L : Array Bool) (a : Act) (w : World) (l : List Nat) : Prop :=
  ∀ j ∈ l, wpOp P ops Q j (fun a' w' => (j ≠ z → S w') ∧ Till P md ops Q S z n (L.setIfInBounds j true) a' w') a w
theorem TillAll.nil {n : Nat} {L : Array Bool} {a : Act} {w : World} : TillAll P md ops Q S z n L a w [] := fun _ h => by cases h
theorem TillAll.cons {n : Nat} {L : Array Bool} {a : Act} {w : World} {i : Nat} {o : Oper} {l : List Nat} (ho : ops[i]? = some o)
    (h : ∀ K : Act → World → Prop, Hid (∀ a w, (i ≠ z → S w) → Till P md ops Q S z n (L.setIfInBounds i true) a w → K a w) → if Region.wanted o (yielded ops a.tmps) = true then Oper.wp P o a w K Q else K (a.put o.dst undef) w)
    (hs : TillAll P md ops Q S z n L a w l) : TillAll P md ops Q S z n L a w (i :: l) := fun j hj => by
  rcases List.mem_cons.1 hj with rfl | hj
  · exact wpOp_step ho fun K hK => h K (Lib.hid fun a w h1 h2 => hK a w ⟨h1, h2⟩)
  · exact hs j hj
theorem Till.ready {l : List Nat} {n : Nat} {L : Array Bool} {a : Act} {w : World} (hr : Region.ready md ops L = l) (hne : l ≠ []) (h : TillAll P md ops Q S z n L a w l) : Till P md ops Q S z (n + 1) L a w := ⟨fun h0 => absurd (hr ▸ h0) hne, hr ▸ h⟩
theorem Till.done {L : Array Bool} {a : Act} {w : World} (hr : Region.ready md ops L = []) (h : Q .normal a w) : ∀ n, Till P md ops Q S z n L a w
  | 0 => ⟨hr, h⟩
  | _ + 1 => ⟨fun _ => h, by rw [hr]; intro j hj; cases hj⟩
end

end Go.Proofs.YthaimnmbcbhioaaDoor
