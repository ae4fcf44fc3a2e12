/-
  One entry less, one member less: what is pure of PacketMore.
-/
import Derived.Test.YtchhdffehkcecaaDoorP12
import Derived.Test.YtchhdffehkcecaaDoorPBack
namespace Go.Proofs.YtchhdffehkcecaaDoor
open Go Go.RowKit

theorem layPk_len (p : Pk) : (layPk p).length = (putInt p.k).length + (putInt p.f).length + (putInt p.a).length + (putInt p.q).length + (p.ms.map layM).flatten.length + (p.es.map putEn).flatten.length + 6 := by
  unfold layPk
  rw [putList_lenP]
  simp only [partsPk, List.flatten_cons, List.flatten_nil, List.length_append, List.length_nil, putList_lenP]
  omega
theorem checkP_of {p : Pk} (h1 : headP p.k p.f p.a p.q = true) (h2 : memsP p.ms = true) (h3 : p.es.length ≤ 256) (h4 : ∀ x ∈ p.es, checkEn x = 0) (h5 : (layPk p).length ≤ 16384) : checkP p = 0 := by
  unfold checkP
  rw [if_neg (by rw [h1, h2]; simp; omega), if_neg (by rw [entsP_zero h4]; simp), if_neg (by omega)]
/-- One entry less. -/
def lessPE (p : Pk) (t : Nat) : Pk := ⟨p.k, p.f, p.a, p.q, p.ms, p.es.take t⟩
def lessPM (p : Pk) (t : Nat) : Pk := ⟨p.k, p.f, p.a, p.q, p.ms.take t, p.es⟩
theorem lessPE_ok {p : Pk} (hp : p.Ok) (t : Nat) : (lessPE p t).Ok := ⟨hp.k, hp.f, hp.a, hp.q, hp.ms, fun x hx => hp.es x (List.mem_of_mem_take hx)⟩
theorem lessPM_ok {p : Pk} (hp : p.Ok) (t : Nat) : (lessPM p t).Ok := ⟨hp.k, hp.f, hp.a, hp.q, fun x hx => hp.ms x (List.mem_of_mem_take hx), hp.es⟩
theorem lessPE_len {p : Pk} {t : Nat} (ht : t + 1 = p.es.length) : (layPk (lessPE p t)).length + (putEn (p.es[t]'(by omega))).length = (layPk p).length := by
  have e : p.es = p.es.take t ++ [p.es[t]'(by omega)] := by
    rw [← List.take_succ_eq_append_getElem (show t < p.es.length by omega), ht, List.take_length]
  have e2 : (p.es.map putEn).flatten.length = ((p.es.take t).map putEn).flatten.length + (putEn (p.es[t]'(by omega))).length := by
    conv => lhs; rw [e]
    simp only [List.map_append, List.flatten_append, List.length_append, List.map_cons, List.map_nil, List.flatten_cons, List.flatten_nil, List.length_nil, Nat.add_zero]
  rw [layPk_len, layPk_len, e2]
  simp only [lessPE]
  omega
theorem lessPM_len {p : Pk} {t : Nat} (ht : t + 1 = p.ms.length) : (layPk (lessPM p t)).length + (layM (p.ms[t]'(by omega))).length = (layPk p).length := by
  have e : p.ms = p.ms.take t ++ [p.ms[t]'(by omega)] := by
    rw [← List.take_succ_eq_append_getElem (show t < p.ms.length by omega), ht, List.take_length]
  have e2 : (p.ms.map layM).flatten.length = ((p.ms.take t).map layM).flatten.length + (layM (p.ms[t]'(by omega))).length := by
    conv => lhs; rw [e]
    simp only [List.map_append, List.flatten_append, List.length_append, List.map_cons, List.map_nil, List.flatten_cons, List.flatten_nil, List.length_nil, Nat.add_zero]
  rw [layPk_len, layPk_len, e2]
  simp only [lessPM]
  omega
theorem lessPE_check {p : Pk} {t : Nat} (ht : t + 1 = p.es.length) (hc : checkP p = 0) : checkP (lessPE p t) = 0 := by
  obtain ⟨h1, h2, h3, h4, h5⟩ := checkP_zero hc
  refine checkP_of (p := lessPE p t) h1 h2 (by simp only [lessPE, List.length_take]; omega) (fun x hx => entsP_all h4 x (List.mem_of_mem_take hx)) (by have := lessPE_len ht; omega)
theorem memsP_take {l : List Mem} (h : memsP l = true) (t : Nat) : memsP (l.take t) = true := by
  simp only [memsP, Bool.and_eq_true, decide_eq_true_eq, Bool.not_eq_true', List.any_eq_false] at h ⊢
  exact ⟨by rw [List.length_take]; omega, fun x hx => h.2 x (List.mem_of_mem_take hx)⟩
theorem lessPM_check {p : Pk} {t : Nat} (ht : t + 1 = p.ms.length) (hc : checkP p = 0) : checkP (lessPM p t) = 0 := by
  obtain ⟨h1, h2, h3, h4, h5⟩ := checkP_zero hc
  refine checkP_of (p := lessPM p t) h1 (memsP_take h2 t) (by simp only [lessPM]; omega) (entsP_all h4) (by have := lessPM_len ht; omega)
theorem MemsAt.take {w : World} {a : Option Addr} {l : List Mem} (h : MemsAt w a l) (t : Nat) : MemsAt w a (l.take t) := fun hn => by
  rw [List.length_take] at hn
  obtain ⟨b, o, rfl, hlt, hc⟩ := h (by omega)
  refine ⟨b, o, rfl, hlt, fun i hi j v hv => ?_⟩
  rw [List.length_take] at hi
  rw [List.getElem_take] at hv
  exact hc i (by omega) j v hv
theorem EntsAt.takeP {w : World} {a : Option Addr} {l : List Ent} (h : EntsAt w a l) (t : Nat) : EntsAt w a (l.take t) := fun hn => by
  rw [List.length_take] at hn
  obtain ⟨b, o, rfl, hlt, hc⟩ := h (by omega)
  refine ⟨b, o, rfl, hlt, fun i hi j v hv => ?_⟩
  rw [List.length_take] at hi
  rw [List.getElem_take] at hv
  exact hc i (by omega) j v hv
theorem elem_mems : Tryd.prog.elem 23 = 45 := by simp [Program.elem, Tryd.underlying23]
theorem elem_ents : Tryd.prog.elem 24 = 48 := by simp [Program.elem, Tryd.underlying24]
theorem sizeOf_mem (w : World) : (Go.sizeOf 45).run Tryd.prog w = .ok 3 w := by kernel_rfl
theorem sizeOf_ent (w : World) : (Go.sizeOf 48).run Tryd.prog w = .ok 5 w := by kernel_rfl
theorem slice_toM (a : Option Addr) (n c k : Nat) (w : World) (hk : k ≤ c) :
    (Instr.slice 23 (.slice a n c) none (some (.int .i64 (k : Int))) none).run Tryd.prog w = .ok (.slice a k c) w := by
  rw [run_slice_h w 23 _ _ _ (by rw [elem_mems]; exact Tryd.underlying23) .i64 _ (by omega) (by omega), elem_mems, sizeOf_mem]
  have e : (a.map fun x => x.add 0) = a := by cases a <;> simp [Addr.add]
  simp [Result.andThen, sliced, e]
theorem slice_toE (a : Option Addr) (n c k : Nat) (w : World) (hk : k ≤ c) :
    (Instr.slice 24 (.slice a n c) none (some (.int .i64 (k : Int))) none).run Tryd.prog w = .ok (.slice a k c) w := by
  rw [run_slice_h w 24 _ _ _ (by rw [elem_ents]; exact Tryd.underlying24) .i64 _ (by omega) (by omega), elem_ents, sizeOf_ent]
  have e : (a.map fun x => x.add 0) = a := by cases a <;> simp [Addr.add]
  simp [Result.andThen, sliced, e]
theorem OwnMx.cap {w : World} {B : Nat} {a : Option Addr} {n c : Nat} {L : List Mem} (h : OwnMx w B (.slice a n c) L) : L.length ≤ c := by
  rcases h.2 with ⟨e, h0⟩ | ⟨g, cap, cur, e, -, -, hcap, -⟩
  · omega
  · simp only [Value.slice.injEq] at e; omega
theorem OwnEx.cap {w : World} {B : Nat} {a : Option Addr} {n c : Nat} {L : List Ent} (h : OwnEx w B (.slice a n c) L) : L.length ≤ c := by
  rcases h.2 with ⟨e, h0⟩ | ⟨g, cap, cur, e, -, -, hcap, -⟩
  · omega
  · simp only [Value.slice.injEq] at e; omega

theorem OwnMx.mems {w : World} {B : Nat} {a : Option Addr} {n c : Nat} {L : List Mem} (h : OwnMx w B (.slice a n c) L) : MemsAt w a L := by
  obtain ⟨x, y, e, -, -, hat⟩ := h.form
  simp only [Value.slice.injEq] at e
  rw [e.1]
  exact hat
theorem OwnEx.ents {w : World} {B : Nat} {a : Option Addr} {n c : Nat} {L : List Ent} (h : OwnEx w B (.slice a n c) L) : EntsAt w a L := by
  obtain ⟨x, y, e, -, -, hat⟩ := h.form
  simp only [Value.slice.injEq] at e
  rw [e.1]
  exact hat

end Go.Proofs.YtchhdffehkcecaaDoor
