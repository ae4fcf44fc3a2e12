/-
  What is laid is read: members, entries, lists, packets.
-/
import Derived.Test.YtchhdffehkcecaaDoorP6
namespace Go.Proofs.YtchhdffehkcecaaDoor
open Go Go.RowKit

theorem byte_here (ch : UInt8) (r : List UInt8) : byteE ch 0 (ch :: r) = (r, 0) := by simp [byteE, rdByte]
theorem int_here (n : Int) (h0 : -9223372036854775808 ≤ n) (h1 : n ≤ 9223372036854775807) (r : List UInt8) : intE 0 (putInt n ++ r) = (r, 0, n) := read_putInt n h0 h1 r
theorem wrap16 {n : Int} (h : 0 ≤ n ∧ n ≤ 65535) : IntKind.u16.wrap n = n := by rw [IntKind.wrap_u16]; omega
theorem wrap8 {n : Int} (h : 0 ≤ n ∧ n ≤ 255) : IntKind.u8.wrap n = n := by rw [IntKind.wrap_u8]; omega
theorem rdMem_lay (m : Mem) (hm : m.Ok) (r : List UInt8) : rdMem 0 (layM m ++ r) = (m, r, 0) := by
  have e : layM m ++ r = 108 :: (putInt m.n ++ (putInt m.s ++ (putInt m.i ++ (101 :: r)))) := by simp [layM, partsM, putList]
  have h1 := int_here m.n (by have := hm.1; omega) (by have := hm.1; omega) (putInt m.s ++ (putInt m.i ++ (101 :: r)))
  have h2 := int_here m.s (by have := hm.2.1; omega) (by have := hm.2.1; omega) (putInt m.i ++ (101 :: r))
  have h3 := int_here m.i hm.2.2.1 hm.2.2.2 (101 :: r)
  rw [e]
  simp only [rdMem, byte_here, h1, h2, h3, wrap16 hm.1, wrap8 hm.2.1]
theorem readEn_lay (x : Ent) (hx : x.Ok) (hc : checkEn x = 0) (r : List UInt8) : readEn (putEn x ++ r) = (x, r, 0) := by
  have hs := checkEn_small hc
  have n1 : x.k.data.toList.length = x.k.size := rfl
  have n2 : x.v.data.toList.length = x.v.size := rfl
  have e : putEn x ++ r = 108 :: (putText x.k.data.toList ++ (putInt x.t ++ (putInt x.o ++ (putText x.v.data.toList ++ (putInt x.u ++ (101 :: r)))))) := by rw [putEn_eq]; simp
  have h0 := byte_here 108 (putText x.k.data.toList ++ (putInt x.t ++ (putInt x.o ++ (putText x.v.data.toList ++ (putInt x.u ++ (101 :: r))))))
  have h1 : textE 9223372036854775807 0 (putText x.k.data.toList ++ (putInt x.t ++ (putInt x.o ++ (putText x.v.data.toList ++ (putInt x.u ++ (101 :: r)))))) = _ := read_putText _ (by omega) _ (by omega) _
  have h2 := int_here x.t hx.1.1 hx.1.2 (putInt x.o ++ (putText x.v.data.toList ++ (putInt x.u ++ (101 :: r))))
  have h3 := int_here x.o (by have := hx.2.1; omega) (by have := hx.2.1; omega) (putText x.v.data.toList ++ (putInt x.u ++ (101 :: r)))
  have h4 : textE 9223372036854775807 0 (putText x.v.data.toList ++ (putInt x.u ++ (101 :: r))) = _ := read_putText _ (by omega) _ (by omega) _
  have h5 := int_here x.u hx.2.2.1 hx.2.2.2 (101 :: r)
  have h6 := byte_here 101 r
  have hq : (⟨⟨x.k.data.toList.toArray⟩, x.t, x.o, ⟨x.v.data.toList.toArray⟩, x.u⟩ : Ent) = x := by obtain ⟨k, t, o, v, u⟩ := x; rfl
  rw [e, readEn_of h0 h1 h2 h3 h4 h5 h6, if_neg (by have := hx.2.1; simp only [ne_eq, not_true, false_or]; omega), hq, if_neg (by simpa using hc)]
theorem more_l (r : List UInt8) : moreB (108 :: r) = true := rfl
theorem more_e (r : List UInt8) : moreB (101 :: r) = false := rfl
theorem rdMs_lay : ∀ (ms : List Mem) (f : Nat) (r : List UInt8), ms.length < f → (∀ m ∈ ms, m.Ok) → rdMs f 0 ((ms.map layM).flatten ++ 101 :: r) = (ms, 101 :: r, 0)
  | [], f + 1, r, _, _ => by rw [rdMs]; simp [more_e]
  | m :: ms, f + 1, r, hf, hm => by
    have e : ((m :: ms).map layM).flatten ++ 101 :: r = layM m ++ ((ms.map layM).flatten ++ 101 :: r) := by simp
    have h1 := rdMem_lay m (hm m (by simp)) ((ms.map layM).flatten ++ 101 :: r)
    have h2 := rdMs_lay ms f r (by simpa using hf) (fun x hx => hm x (by simp [hx]))
    have h3 : moreB (layM m ++ ((ms.map layM).flatten ++ 101 :: r)) = true := rfl
    rw [e, rdMs, if_pos h3]
    simp only [h1, h2]
theorem rdEs_lay : ∀ (es : List Ent) (f : Nat) (r : List UInt8), es.length < f → (∀ x ∈ es, x.Ok ∧ checkEn x = 0) → rdEs f 0 ((es.map putEn).flatten ++ 101 :: r) = (es, 101 :: r, 0)
  | [], f + 1, r, _, _ => by rw [rdEs]; simp [more_e]
  | x :: es, f + 1, r, hf, hm => by
    have e : ((x :: es).map putEn).flatten ++ 101 :: r = putEn x ++ ((es.map putEn).flatten ++ 101 :: r) := by simp
    have h1 := readEn_lay x (hm x (by simp)).1 (hm x (by simp)).2 ((es.map putEn).flatten ++ 101 :: r)
    have h2 := rdEs_lay es f r (by simpa using hf) (fun y hy => hm y (by simp [hy]))
    have h3 : moreB (putEn x ++ ((es.map putEn).flatten ++ 101 :: r)) = true := rfl
    rw [e, rdEs, if_pos h3]
    simp only [h1, h2]
theorem flat_ge {α : Type} (g : α → List UInt8) : ∀ (l : List α), (∀ x ∈ l, 0 < (g x).length) → l.length ≤ (l.map g).flatten.length
  | [], _ => by simp
  | x :: l, h => by
    have h1 := flat_ge g l (fun y hy => h y (by simp [hy]))
    have h2 := h x (by simp)
    simp only [List.map_cons, List.flatten_cons, List.length_append, List.length_cons]
    omega
theorem rdLM_lay (ms : List Mem) (r : List UInt8) (hm : ∀ m ∈ ms, m.Ok) : rdLM 0 (putList (ms.map layM) ++ r) = (ms, r, 0) := by
  have e : putList (ms.map layM) ++ r = 108 :: ((ms.map layM).flatten ++ 101 :: r) := by simp [putList]
  have hf : ms.length < ((ms.map layM).flatten ++ 101 :: r).length + 1 := by
    have := flat_ge layM ms (fun m _ => by unfold layM; rw [putList_lenP]; omega)
    simp only [List.length_append]
    omega
  rw [e]
  simp only [rdLM, byte_here, rdMs_lay ms _ r hf hm]
theorem rdLE_lay (es : List Ent) (r : List UInt8) (hm : ∀ x ∈ es, x.Ok ∧ checkEn x = 0) : rdLE 0 (putList (es.map putEn) ++ r) = (es, r, 0) := by
  have e : putList (es.map putEn) ++ r = 108 :: ((es.map putEn).flatten ++ 101 :: r) := by simp [putList]
  have hf : es.length < ((es.map putEn).flatten ++ 101 :: r).length + 1 := by
    have := flat_ge putEn es (fun x _ => by unfold putEn; rw [putList_lenP]; omega)
    simp only [List.length_append]
    omega
  rw [e]
  simp only [rdLE, byte_here, rdEs_lay es _ r hf hm]
/-- What is laid of a packet is read as it was. -/
theorem rdPk_lay (p : Pk) (hp : p.Ok) (hc : checkP p = 0) : rdPk (layPk p) = p := by
  obtain ⟨h1, h2, h3, h4, h5⟩ := checkP_zero hc
  have e : layPk p = 108 :: (putInt p.k ++ (putInt p.f ++ (putInt p.a ++ (putInt p.q ++ (putList (p.ms.map layM) ++ (putList (p.es.map putEn) ++ [101])))))) := by simp [layPk, partsPk, putList]
  have i1 := int_here p.k (by have := hp.k; omega) (by have := hp.k; omega) (putInt p.f ++ (putInt p.a ++ (putInt p.q ++ (putList (p.ms.map layM) ++ (putList (p.es.map putEn) ++ [101])))))
  have i2 := int_here p.f (by have := hp.f; omega) (by have := hp.f; omega) (putInt p.a ++ (putInt p.q ++ (putList (p.ms.map layM) ++ (putList (p.es.map putEn) ++ [101]))))
  have i3 := int_here p.a (by have := hp.a; omega) (by have := hp.a; omega) (putInt p.q ++ (putList (p.ms.map layM) ++ (putList (p.es.map putEn) ++ [101])))
  have i4 := int_here p.q hp.q.1 hp.q.2 (putList (p.ms.map layM) ++ (putList (p.es.map putEn) ++ [101]))
  have i5 := rdLM_lay p.ms (putList (p.es.map putEn) ++ [101]) hp.ms
  have i6 := rdLE_lay p.es [101] (fun x hx => ⟨hp.es x hx, entsP_all h4 x hx⟩)
  rw [e]
  simp only [rdPk, byte_here, i1, i2, i3, i4, i5, i6, wrap8 hp.k, wrap16 hp.f, wrap16 hp.a]
/-- Bytes that are a packet. -/
def readOk (b : List UInt8) : Prop := b.length ≤ 16384 ∧ checkP (rdPk b) = 0 ∧ layPk (rdPk b) = b

end Go.Proofs.YtchhdffehkcecaaDoor
