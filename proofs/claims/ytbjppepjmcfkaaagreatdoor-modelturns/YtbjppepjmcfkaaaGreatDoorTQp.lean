/- Short names of theorems of the library. -/
namespace Go.Proofs.YtbjppepjmcfkaaaGreatDoor
theorem jb : type_of% @List.length_append := @List.length_append
theorem jd : type_of% @List.length_cons := @List.length_cons
theorem je : type_of% @List.length_nil := @List.length_nil
theorem jf : type_of% @Option.bind_some := @Option.bind_some
theorem jg : type_of% @Option.bind_eq_some_iff := @Option.bind_eq_some_iff
theorem jh : type_of% @Option.some.injEq := @Option.some.injEq
theorem ji : type_of% @Nat.le_of_lt := @Nat.le_of_lt
theorem jj : type_of% @Bool.and_eq_true := @Bool.and_eq_true
theorem jl : type_of% @decide_eq_true_eq := @decide_eq_true_eq
theorem jo : type_of% @Nat.lt_of_lt_of_le := @Nat.lt_of_lt_of_le
theorem jp : type_of% @Nat.le_trans := @Nat.le_trans
theorem jq : type_of% @List.cons.injEq := @List.cons.injEq
theorem jr : type_of% @Bool.false_eq_true := @Bool.false_eq_true
theorem js : type_of% @List.nil_append := @List.nil_append
theorem jt : type_of% @List.append_assoc := @List.append_assoc
theorem ju : type_of% @if_neg := @if_neg
theorem jv : type_of% @if_pos := @if_pos
theorem jw : type_of% @Option.some.inj := @Option.some.inj
theorem jy : type_of% @List.mem_singleton := @List.mem_singleton
theorem jz : type_of% @Nat.zero_le := @Nat.zero_le
theorem jF : type_of% @List.mem_cons_of_mem := @List.mem_cons_of_mem
theorem jG : type_of% @List.take_of_length_le := @List.take_of_length_le
theorem jH : type_of% @List.getElem_mem := @List.getElem_mem
theorem jI : type_of% @List.getElem_cons_zero := @List.getElem_cons_zero
theorem jJ : type_of% @List.mem_cons_self := @List.mem_cons_self
theorem jL : type_of% @List.cons_append := @List.cons_append
theorem jM : type_of% @Nat.lt_or_ge := @Nat.lt_or_ge
end Go.Proofs.YtbjppepjmcfkaaaGreatDoor
