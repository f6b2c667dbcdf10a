/- Being later, in plain words: chains of relations; the table of the model (Warshall's); the search of the program. -/
import Derived.Test.YthcjembekadijaaOrderSaidPartab

/- Which records are valid, and where a number stands among ascending contexts. -/

