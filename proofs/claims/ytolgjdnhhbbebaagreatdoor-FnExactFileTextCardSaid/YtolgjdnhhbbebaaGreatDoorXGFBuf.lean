/- Bytes that a call puts together by append, in a row of its own: what is owned behind each append, and the text that it is made into. Nothing here speaks of one program. -/
import Derived.WalkKit
import Derived.OpenShut
import Derived.Laws.IdiomStrings
import Derived.Laws.BytesString
import Derived.Lib.OthersKept
import Derived.Lib.AppendStr
import Derived.Deep.RegionHeld3
namespace Go.Proofs.YtolgjdnhhbbebaaGreatDoor
open Go.RowKit

def u8v (c : UInt8) : Value := .int .u8 (c.toNat : Int)
def u8s (L : List UInt8) : List Value := L.map u8v
@[simp] theorem u8s_len (L : List UInt8) : (u8s L).length = L.length := by simp [u8s]

/-- The slice v owns the bytes L in the world w, in a block from B on; from w0 on nothing below B has turned, nor any block that is no row of bytes. -/
structure Buf (e : TypeId) (B : Nat) (w0 w : World) (v : Value) (L : List UInt8) : Prop where
  own : w.ownsRow B e 1 v L.length (u8s L)
  below : Below B w0 w
  le : B ≤ w0.heap.size
  kept : Lib.OthersKept e none w0 w

theorem Buf.start {e B : Nat} {w : World} {v : Value} {L : List UInt8} (h : w.ownsRow B e 1 v L.length (u8s L)) (hB : B ≤ w.heap.size) : Buf e B w w v L :=
  ⟨h, Below.refl _ _, hB, Lib.OthersKept.refl _ _ _⟩
theorem Buf.nil (e : TypeId) {B : Nat} {w : World} (hB : B ≤ w.heap.size) : Buf e B w w (.slice none 0 0) [] :=
  ⟨World.ownsRow_nil w _ _ _, Below.refl _ _, hB, Lib.OthersKept.refl _ _ _⟩
theorem Buf.size {e B : Nat} {w0 w : World} {v : Value} {L : List UInt8} (h : Buf e B w0 w v L) : B ≤ w.heap.size := Nat.le_trans h.le h.below.size
theorem Buf.trans {e B : Nat} {w0 w1 w2 : World} {v u : Value} {L M : List UInt8} (h : Buf e B w0 w1 v L) (k : Buf e B w1 w2 u M) : Buf e B w0 w2 u M :=
  ⟨k.own, h.below.trans k.below, h.le, h.kept.trans k.kept⟩
theorem Buf.drew {e B : Nat} {w0 w : World} {v : Value} {L : List UInt8} (h : Buf e B w0 w v L) : Buf e B w0 w.drew v L :=
  ⟨h.own, h.below.drew, h.le, h.kept.drew⟩
theorem Buf.alloc {e B : Nat} {w0 w : World} {v : Value} {L : List UInt8} (h : Buf e B w0 w v L) (o : Obj) : Buf e B w0 (w.alloc o) v L :=
  ⟨h.own.alloc _, h.below.alloc h.size _, h.le, h.kept.alloc _⟩
theorem own_kindB {w : World} {B : Nat} {e : TypeId} {v : Value} {n : Nat} {xs : List Value} (h : w.ownsRow B e 1 v n xs) : ∀ g, v.ownBlock = some g → ∃ c fz, w.heap[g]? = some (.cells c e fz) := by
  intro g hg
  rcases h.2 with ⟨rfl, _⟩ | ⟨g', cap, cur, rfl, _, hgg, _⟩
  · simp [Value.ownBlock] at hg
  · simp [Value.ownBlock] at hg
    subst hg
    exact ⟨cur, _, hgg⟩
/-- A call that turns no byte row but makes new blocks. -/
theorem Buf.onBelow {e B : Nat} {w0 w w' : World} {v : Value} {L : List UInt8} (h : Buf e B w0 w v L) (hb : Below w.heap.size w w') : Buf e B w0 w' v L := by
  refine ⟨h.own.kept (row := none) ⟨hb.os, hb.tape, hb.output, hb.size, fun k hk _ => hb.block k hk⟩ (by cases v.ownBlock <;> simp), h.below.trans (hb.mono h.size), h.le, ?_⟩
  intro k o hk hn ho
  have h1 := h.kept k o hk hn ho
  have hlt : k < w.heap.size := (Array.getElem?_eq_some_iff.1 h1).1
  rw [hb.block k hlt]
  exact h1
theorem Buf.iterAt {e B : Nat} {w0 w : World} {v : Value} {L : List UInt8} (h : Buf e B w0 w v L) {k : Nat} {s : ByteArray} {pos : Nat} (hk : w.heap[k]? = some (.stringIter s pos)) (hk0 : w0.heap.size ≤ k) (pos' : Nat) :
    Buf e B w0 (w.iterAt k s pos') v L := by
  refine ⟨⟨h.own.1, ?_⟩, Lib.below_iterAt h.below (Nat.le_trans h.le hk0) s pos', h.le, ?_⟩
  · rcases h.own.2 with hn | ⟨g, cap, cur, hv, hbg, hg, rest⟩
    · exact .inl hn
    · have hkg : g ≠ k := by
        intro e1
        rw [e1, hk] at hg
        cases hg
      exact .inr ⟨g, cap, cur, hv, hbg, (Lib.iterAt_other w k g s pos' hkg).trans hg, rest⟩
  · intro j o hj hn ho
    have hjl : j < w0.heap.size := (Array.getElem?_eq_some_iff.1 hj).1
    rw [Lib.iterAt_other w k j s pos' (by omega)]
    exact h.kept j o hj hn ho

/-- What append of new bytes, that lie in a block of their own, does. -/
theorem buf_append {P : Program} {w w0 : World} {B : Nat} {e t ty : TypeId} (ht : P.underlying t = some (.slice e)) (hi : (P.info? e).map (fun i => (i.zero, i.size, i.bytes)) = some (some (.int .u8 0), 1, 1))
    {v : Value} {L : List UInt8} (h : Buf e B w0 w v L) (g m : Nat) (N : List UInt8) (hm : N.length = m) (hc : ∃ fz, w.heap[g]? = some (.cells (u8s N).toArray e fz)) (hlen : L.length + N.length ≤ 100000000) :
    ∃ v' w', (Builtin.append_ #[t, t] ty #[v, .slice (some ⟨g, 0, none⟩) m m]).run P w = .ok v' w' ∧ Buf e B w0 w' v' (L ++ N) := by
  obtain ⟨i0, hi0, hz0, hz1, hz2⟩ := info_parts hi
  obtain ⟨fz, hc⟩ := hc
  obtain ⟨v', w', hr, ho, hg, _⟩ := run_append_own (P := P) w B t ty e i0 (.int .u8 0) 1 1 ht hi0 hz0 hz1 hz2 rfl (by decide) v L.length (u8s L) h.own ⟨g, 0, none⟩ m m (u8s N) (by simp [hm])
    (by
      intro j u hj
      have ea : (⟨g, 0, none⟩ : Addr).add j = ⟨g, j, none⟩ := by unfold Addr.add; split <;> simp_all
      rw [ea, cell_of_row w g j _ e fz hc]
      simpa using hj)
    (by intro u hu; simp [u8s] at hu; obtain ⟨x, _, rfl⟩ := hu; rfl) (by unfold maxLen; omega) (by omega) h.size
  refine ⟨v', w', hr, ?_, h.below.grown hg h.size (fun k hk => (h.own.lt k hk).1), h.le, h.kept.grown hg (own_kindB h.own)⟩
  have : u8s (L ++ N) = u8s L ++ u8s N := by simp [u8s]
  rw [this, List.length_append, hm]
  exact ho

theorem step_buf {P : Program} {ops : Array Oper} {o : Oper} {a : Act} {w w0 : World} {K : Act → World → Prop} {Q : Exit → Act → World → Prop} {E : Prop}
    (hg : o.guard = none) (s x : Operand) (t : TypeId) (hop : o.op = Op.call { callee := Callee.builtin Builtin.append, args := #[s, x], argTypes := #[t, t] })
    (B : Nat) (e : TypeId) (ht : P.underlying t = some (.slice e)) (hi : (P.info? e).map (fun i => (i.zero, i.size, i.bytes)) = some (some (.int .u8 0), 1, 1))
    (v : Value) (L : List UInt8) (hs : a.eval s = v) (hB : Buf e B w0 w v L) (g m : Nat) (N : List UInt8) (hx : a.eval x = .slice (some ⟨g, 0, none⟩) m m) (hm : N.length = m)
    (hc : ∃ fz, w.heap[g]? = some (.cells (u8s N).toArray e fz)) (hlen : L.length + N.length ≤ 100000000)
    (hK : ∀ v' w', Buf e B w0 w' v' (L ++ N) → K (a.put o.dst v') w') :
    if Region.wanted o (yielded ops a.tmps) = true then Oper.wp P o a w K Q else E := by
  have hw : Region.wanted o (yielded ops a.tmps) = true := by simp [Region.wanted, hg]
  rw [if_pos hw]
  obtain ⟨v', w', hrun, h2⟩ := buf_append (P := P) (ty := o.type) ht hi hB g m N hm hc hlen
  unfold Oper.wp
  simp [execOp, hop, resolve, invoke, builtin, hs, hx, hrun, Result.andThen]
  exact hK v' w' h2

theorem wpList_buf {P : Program} {ops : Array Oper} {rest : List Oper} {o : Oper} {a : Act} {w w0 : World} {Q : Exit → Act → World → Prop}
    (hg : o.guard = none) (s x : Operand) (t : TypeId) (hop : o.op = Op.call { callee := Callee.builtin Builtin.append, args := #[s, x], argTypes := #[t, t] })
    (B : Nat) (e : TypeId) (ht : P.underlying t = some (.slice e)) (hi : (P.info? e).map (fun i => (i.zero, i.size, i.bytes)) = some (some (.int .u8 0), 1, 1))
    (v : Value) (L : List UInt8) (hs : a.eval s = v) (hB : Buf e B w0 w v L) (g m : Nat) (N : List UInt8) (hx : a.eval x = .slice (some ⟨g, 0, none⟩) m m) (hm : N.length = m)
    (hc : ∃ fz, w.heap[g]? = some (.cells (u8s N).toArray e fz)) (hlen : L.length + N.length ≤ 100000000)
    (hK : ∀ v' w', Buf e B w0 w' v' (L ++ N) → wpList P ops Q rest (a.put o.dst v') w') : wpList P ops Q (o :: rest) a w := by
  refine wpList_plain hg fun _ hK2 => ?_
  obtain ⟨v', w', hrun, h2⟩ := buf_append (P := P) (ty := o.type) ht hi hB g m N hm hc hlen
  unfold Oper.wp
  simp [execOp, hop, resolve, invoke, builtin, hs, hx, hrun, Result.andThen]
  exact hK2 _ _ (hK v' w' h2)

theorem Buf.text {P : Program} {e t T B : Nat} {w0 w : World} {v : Value} {L : List UInt8} (h : Buf e B w0 w v L)
    (ht : P.underlying t = some (.slice e)) (he : P.underlying e = some (.int .u8)) (hT : P.underlying T = some .string) :
    (convert t T v).run P w = .ok (.string ⟨L.toArray⟩) w := by
  obtain ⟨h0, hv⟩ := h.own
  rcases hv with ⟨rfl, hn⟩ | ⟨g, cap, cur, rfl, _, hh, hnc, _, hcs, htk⟩
  · have : L = [] := List.eq_nil_of_length_eq_zero hn
    subst this
    rw [run_convert_bytes_string w t T e none 0 0 ht he hT]
    rfl
  · exact run_convert_bytes_back (P := P) w t T e ⟨g, 0, none⟩ cap L ht he hT (fun j hj => by
      have ea : (⟨g, 0, none⟩ : Addr).add j = ⟨g, j, none⟩ := by unfold Addr.add; split <;> simp_all
      rw [ea, cell_of_row w g j _ e (0, 0) hh]
      have e1 : cur[j]? = (cur.toList.take (L.length * 1))[j]? := by
        rw [List.getElem?_take_of_lt (by omega)]; simp
      rw [e1, htk]
      simp [u8s, u8v, hj])
end Go.Proofs.YtolgjdnhhbbebaaGreatDoor
