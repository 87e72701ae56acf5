/- Channels in one goroutine, for the walk by statements: a region in whose operations a send, or a select with a default, stands. -/
import Derived.Test.YtfcjmhihheeifaaGround
import Derived.Conc.LoneCalls
import Derived.Conc.LoneSelect
namespace Go.Proofs.Ytfcjmhihheeifaa
open Go.RowKit Go.Conc

/-- What the operations that are left of a region come to. -/
def OpsTo (P : Program) (ops : Array Oper) (Q : Exit → Act → World → Prop) (l : List Nat) (a : Act) (w : World) : Prop :=
  ∀ (b : Frame) (k : List Item) (cs : List Frame), ∃ e a' w', Q e a' w' ∧ Arrives P (lone (b.at a (.inRegion ops l :: k)) cs w) b k cs e a' w'
section
variable {P : Program} {id : Nat} {ops : Array Oper} {Q : Exit → Act → World → Prop} {a : Act} {w w' : World} {i : Nat} {rest : List Nat} {o : Oper} {v : Value}
theorem wp_region_to (h : OpsTo P ops Q (List.range ops.size) a w) : (Code.region id ops false).wp P Q a w :=
  fun b k cs => let ⟨e, a', w', q, r⟩ := h b k cs; ⟨e, a', w', q, .of_steps (.one step_region) r⟩
theorem to_nil (h : Q .normal a w) : OpsTo P ops Q [] a w := fun _ _ _ => ⟨.normal, a, w, h, .one step_region_end⟩
theorem to_wp {l : List Nat} (h : wpOps P ops Q l a w) : OpsTo P ops Q l a w := fun b k cs => wp_ops l a w h b k cs
theorem to_val (ho : ops[i]? = some o) (hw : Region.wanted o (yielded ops a.tmps) = true) (hr : (execOp a.eval o).run P w = .ok (.value v) w') (h : OpsTo P ops Q rest (a.put o.dst v) w') : OpsTo P ops Q (i :: rest) a w := by
  intro b k cs
  obtain ⟨e, a', w'', q, r⟩ := h b k cs
  have hfin : (b.at a (.inRegion ops (i :: rest) :: k)).finish v = b.at (a.put o.dst v) (.inRegion ops rest :: k) := by rw [Frame.finish_at, ho]; rfl
  refine ⟨e, a', w'', q, .of_steps (.one (step_lone_go ?_)) r⟩
  rw [Go.stepG_op ho hw, ← hfin]
  simp [stepG.apply, hr]
/-- A communication is handed up to the machine. -/
theorem comm_up {b : Frame} {k : List Item} {cs : List Frame} {cases : Array CommCase} {blocking : Bool} {shape : CommShape} (ho : ops[i]? = some o) (hw : Region.wanted o (yielded ops a.tmps) = true)
    (hr : (execOp a.eval o).run P w = .ok (.comm cases blocking shape) w') :
    ∃ es, stepG P true (G (b.at a (.inRegion ops (i :: rest) :: k)) cs) w = .comm (G (b.at a (.inRegion ops (i :: rest) :: k)) cs) cases blocking shape w' es := by
  rw [stepG_oper ho hw]
  simp only [stepG.apply, Sem.runT_eq, if_true, hr, G, GStep.after]
  exact ⟨_, rfl⟩
/-- A send into a buffer with room. -/
theorem to_send {c cap s r : Nat} {buf : Array Value} {z : Value} {tm : Bool} (ho : ops[i]? = some o) (hw : Region.wanted o (yielded ops a.tmps) = true) (hr : (execOp a.eval o).run P w = .ok (.comm #[scase c v z] true .send) w')
    (hc : w'.heap[c]? = some (.chan cap buf false s r tm)) (hroom : buf.size < cap) (h : OpsTo P ops Q rest (a.put o.dst undef) (w'.setChan c cap (buf.push v) false (s + 1) r tm)) : OpsTo P ops Q (i :: rest) a w := by
  intro b k cs
  obtain ⟨e, a', w'', q, ar⟩ := h b k cs
  obtain ⟨es, he⟩ := comm_up (b := b) (k := k) (cs := cs) (rest := rest) ho hw hr
  have hs := step_lone_send_room he hc hroom
  rw [Frame.finish_at, ho] at hs
  exact ⟨e, a', w'', q, .of_steps (.one hs) ar⟩
/-- A select of one receive with a default: the buffer holds something. -/
theorem to_recv {c cap s r : Nat} {buf : Array Value} {z : Value} {tm : Bool} (ho : ops[i]? = some o) (hw : Region.wanted o (yielded ops a.tmps) = true) (hr : (execOp a.eval o).run P w = .ok (.comm #[rcase c z] false .select) w')
    (hc : w'.heap[c]? = some (.chan cap buf false s r tm)) (hsome : 0 < buf.size) (h : OpsTo P ops Q rest (a.put o.dst (.tuple #[goInt 0, .bool true, buf.getD 0 undef])) (w'.setChan c cap (buf.extract 1 buf.size) false s (r + 1) tm)) : OpsTo P ops Q (i :: rest) a w := by
  intro b k cs
  obtain ⟨e, a', w'', q, ar⟩ := h b k cs
  obtain ⟨es, he⟩ := comm_up (b := b) (k := k) (cs := cs) (rest := rest) ho hw hr
  have hs := step_lone_select_recv_buf he hc hsome
  rw [Frame.finish_at, ho] at hs
  exact ⟨e, a', w'', q, .of_steps (.one hs) ar⟩
/-- The same: the buffer is empty. -/
theorem to_none {c cap s r : Nat} {z : Value} {tm : Bool} (ho : ops[i]? = some o) (hw : Region.wanted o (yielded ops a.tmps) = true) (hr : (execOp a.eval o).run P w = .ok (.comm #[rcase c z] false .select) w')
    (hc : w'.heap[c]? = some (.chan cap #[] false s r tm)) (h : OpsTo P ops Q rest (a.put o.dst (.tuple #[goInt (-1), .bool false, z])) w') : OpsTo P ops Q (i :: rest) a w := by
  intro b k cs
  obtain ⟨e, a', w'', q, ar⟩ := h b k cs
  obtain ⟨es, he⟩ := comm_up (b := b) (k := k) (cs := cs) (rest := rest) ho hw hr
  have hs := step_lone_select_default he hc
  rw [Frame.finish_at, ho] at hs
  exact ⟨e, a', w'', q, .of_steps (.one hs) ar⟩
end

/-! Where a channel lies. -/
theorem cell_chan {w : World} {c cap s r : Nat} {buf : Array Value} {cl tm : Bool} {p : Addr} (h : p.block ≠ c) : (w.setChan c cap buf cl s r tm).cell? p = w.cell? p := by
  simp only [World.cell?, World.setChan]
  rw [Array.getElem?_setIfInBounds_ne (fun e => h e.symm)]
theorem froz_chan {w : World} {c cap s r : Nat} {buf : Array Value} {cl tm : Bool} {p : Addr} (h : p.block ≠ c) : (w.setChan c cap buf cl s r tm).frozen? p = w.frozen? p := by
  simp only [World.frozen?, World.setChan]
  rw [Array.getElem?_setIfInBounds_ne (fun e => h e.symm)]
theorem blk_chan {w : World} {c cap s r g : Nat} {t : TypeId} {cs : Array Value} {buf : Array Value} {cl tm : Bool} (h : Blk w g t cs) (hg : g ≠ c) : Blk (w.setChan c cap buf cl s r tm) g t cs := by
  unfold Blk at h ⊢
  simp only [World.setChan]
  rw [Array.getElem?_setIfInBounds_ne (fun e => hg e.symm)]
  exact h
theorem chan_cell {w : World} {c : Nat} {p : Addr} {u : Value} (h : c ≠ p.block) : (w.setCell p u).heap[c]? = w.heap[c]? := Below.heap_setCell w p u c h
theorem grown_chan {w : World} {c cap s r : Nat} {buf : Array Value} {cl tm : Bool} : w.grownBy (w.setChan c cap buf cl s r tm) (some c) :=
  ⟨rfl, rfl, rfl, by simp [World.setChan], fun k _ hk => by simp only [World.setChan]; rw [Array.getElem?_setIfInBounds_ne (fun e => hk (by rw [e]))]⟩

end Go.Proofs.Ytfcjmhihheeifaa
